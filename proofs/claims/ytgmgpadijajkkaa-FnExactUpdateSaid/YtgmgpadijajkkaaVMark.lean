/- Views: the contract of the law's helper that leaves marks. Condition: at most 2^21 views. -/
import Derived.Test.YtgmgpadijajkkaaVB
namespace Go.Proofs.Ytgmgpadijajkkaa
open Go.RowKit

def Marked4 (w : World) (kk : Nat) (A : Option Addr) (n c : Nat) (e : Ending) (w' : World) : Prop :=
  e = .returned (.int .i64 (kk : Int)) ∧ w.grownBy w' (Value.slice A n c).ownBlock

set_option maxRecDepth 10000 in
set_option maxHeartbeats 4000000 in
theorem markVs_any (A : Option Addr) (n c lo k : Nat) (es : List VE) (w : World) (ho : w.ownsRow lo 32 4 (.slice A n c) n (es.flatMap VE.cells)) (hl : es.length = n) (hn : n ≤ 2097152) (hk : k ≤ 16777216) :
    Calls Try.prog 25 #[.slice A n c, .int .i64 (k : Int)] w (Marked4 w (k + 4 * n) A n c) := by
  have HL := Lib.hid hl
  rcases Nat.eq_zero_or_pos n with rfl | hpos
  · obtain rfl : es = [] := List.eq_nil_of_length_eq_zero hl
    have HO := Lib.hid ho
    clear ho hl
    go_enter Try.func25, Try.ntmps25
    go_wp2
    go_loopw [1, 5] (fun q i wr => i = .int .i64 0 ∧ q = .int .i64 (k : Int) ∧ wr = w) (fun _ _ _ => 0)
    case atStart => exact ⟨rfl, rfl, rfl⟩
    case round =>
      obtain ⟨rfl, rfl, rfl⟩ := hrel
      go_wp2
      go_ret
      exact ⟨rfl, World.grownBy.refl _ _⟩
  · obtain ⟨g, rfl⟩ := g_own_at ho hpos
    have HO : Hid (∃ l : List VE, l.length = n ∧ w.ownsRow lo 32 4 (.slice (some ⟨g, 0, none⟩) n c) n (l.flatMap VE.cells)) := Lib.hid ⟨es, hl, ho⟩
    clear ho hl
    go_enter Try.func25, Try.ntmps25
    go_wp2
    go_loopw [1, 5] (fun q i wr => ∃ j : Nat, j ≤ n ∧ i = .int .i64 (j : Int) ∧ q = .int .i64 ((k + 4 * j : Nat) : Int) ∧ Hid (∃ l : List VE, l.length = n ∧ wr.ownsRow lo 32 4 (.slice (some ⟨g, 0, none⟩) n c) n (l.flatMap VE.cells)) ∧ Hid (w.grownBy wr (some g))) (fun _ i _ => n - (intOf i).toNat)
    case atStart => exact ⟨0, Nat.zero_le _, rfl, rfl, HO, Lib.hid (World.grownBy.refl _ _)⟩
    case round =>
      clear HO
      obtain ⟨j, hj, rfl, rfl, hown, hgr⟩ := hrel
      by_cases hlt : j < n
      · obtain ⟨l, hl, hown2⟩ := hown.out
        have hjl : j < l.length := by omega
        obtain ⟨x, hx⟩ : ∃ x, l[j]? = some x := ⟨l[j], List.getElem?_eq_getElem hjl⟩
        have hq := fun i (hi : i < 4) => (hown2.cellAt (j * 4 + i) (by omega)).trans (flat_get VE.cells 4 VE.cells_len l j i x hx hi)
        have hc0 : wr.cell? ⟨g, j * 4, none⟩ = some (.bool x.i) := hq 0 (by omega)
        have hc1 : wr.cell? ⟨g, j * 4 + 1, none⟩ = some (.bool x.o) := hq 1 (by omega)
        have hc2 : wr.cell? ⟨g, j * 4 + 2, none⟩ = some (.int .i64 x.w) := hq 2 (by omega)
        have hc3 : wr.cell? ⟨g, j * 4 + 3, none⟩ = some (.int .i64 x.v) := hq 3 (by omega)
        have hf0 := hown2.frozenAt (j * 4)
        have hf1 := hown2.frozenAt (j * 4 + 1)
        have hf2 := hown2.frozenAt (j * 4 + 2)
        have hf3 := hown2.frozenAt (j * 4 + 3)
        obtain ⟨q, hqq⟩ : ∃ q, q = k + 4 * j := ⟨_, rfl⟩
        have hqb : q ≤ 40000000 := by omega
        obtain ⟨z0, hz0⟩ : ∃ z0 : Int, z0 = (q : Int) := ⟨_, rfl⟩
        have hm0 : ∃ m0 : Int, Int.tmod z0 3 = m0 ∧ IntKind.i64.wrap m0 = m0 := ⟨_, rfl, IntWalk.i64_in _ (by rw [Int.tmod_eq_emod_of_nonneg (by omega)]; omega)⟩
        obtain ⟨m0, hm0, hm0w⟩ := hm0
        have hm1 : ∃ m1 : Int, Int.tmod (z0 + 1) 3 = m1 ∧ IntKind.i64.wrap m1 = m1 := ⟨_, rfl, IntWalk.i64_in _ (by rw [Int.tmod_eq_emod_of_nonneg (by omega)]; omega)⟩
        obtain ⟨m1, hm1, hm1w⟩ := hm1
        have ha1 : IntKind.i64.wrap (z0 + 1) = z0 + 1 := IntWalk.i64_in _ (by omega)
        have ha2 : IntKind.i64.wrap (z0 + 1 + 1) = z0 + 2 := (IntWalk.i64_in _ (by omega)).trans (by omega)
        have ha3 : IntKind.i64.wrap (z0 + 2 + 1) = z0 + 3 := (IntWalk.i64_in _ (by omega)).trans (by omega)
        have ha4 : IntKind.i64.wrap (z0 + 3 + 1) = z0 + 4 := (IntWalk.i64_in _ (by omega)).trans (by omega)
        have hs : l = l.take j ++ x :: l.drop (j + 1) := by
          obtain ⟨h1, rfl⟩ := List.getElem?_eq_some_iff.1 hx
          simp
        have hmk : (l.take j).length = j := by rw [List.length_take]; omega
        rw [hs] at hown2
        have HS := Lib.hid (v_lay (e := ⟨(m0 == 0), (m1 == 0), z0 + 2, z0 + 3⟩) hown2 hmk)
        have HLL : Hid ((l.take j ++ (⟨(m0 == 0), (m1 == 0), z0 + 2, z0 + 3⟩ : VE) :: l.drop (j + 1)).length = n) := Lib.hid (by rw [List.length_append, List.length_cons, List.length_take, List.length_drop]; omega)
        have HQ := Lib.hid hqq
        have HZ := Lib.hid hz0
        simp only [← hqq, ← hz0]
        clear hown hown2 hq hx hmk hs hqq hz0 hl hjl
        generalize l.take j ++ (⟨(m0 == 0), (m1 == 0), z0 + 2, z0 + 3⟩ : VE) :: l.drop (j + 1) = l2 at HS HLL
        go_wp2
        go_roundw
        case rel =>
          refine ⟨j + 1, by omega, by go_num, ?_, Lib.hid ⟨l2, HLL.out, HS.out.1⟩, Lib.hid (hgr.out.trans HS.out.2)⟩
          have := HQ.out
          have := HZ.out
          exact congrArg (Value.int .i64) (by omega)
        case measure => simp [intOf]; omega
      · obtain rfl : j = n := by omega
        go_wp2
        go_ret
        exact ⟨rfl, hgr.out⟩
end Go.Proofs.Ytgmgpadijajkkaa
