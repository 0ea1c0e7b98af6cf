/- Shard edges: the contracts of the laws' helpers that leave marks and that look for them. Condition: at most 2^21 edges. -/
import Derived.Test.YtmbabbapcjphgaaKEB
namespace Go.Proofs.Ytmbabbapcjphgaa
open Go.RowKit

def Marked5 (w : World) (lo kk : Nat) (A : Option Addr) (n c k : Nat) (es : List KE) (e : Ending) (w' : World) : Prop :=
  e = .returned (.int .i64 (kk : Int)) ∧ w'.ownsRow lo 77 5 (.slice A n c) n ((mark5 k es).flatMap KE.cells) ∧ w.grownBy w' (Value.slice A n c).ownBlock

set_option maxRecDepth 10000 in
set_option maxHeartbeats 2000000 in
theorem markKs_any (A : Option Addr) (n c lo k : Nat) (es : List KE) (w : World) (ho : w.ownsRow lo 77 5 (.slice A n c) n (es.flatMap KE.cells)) (hl : es.length = n) (hn : n ≤ 2097152) (hk : k ≤ 16777216) :
    Calls Try.prog 68 #[.slice A n c, .int .i64 (k : Int)] w (Marked5 w lo (k + 5 * n) A n c k es) := by
  have HL := Lib.hid hl
  rcases Nat.eq_zero_or_pos n with rfl | hpos
  · obtain rfl : es = [] := List.eq_nil_of_length_eq_zero hl
    have HO := Lib.hid ho
    clear ho hl
    go_enter Try.func68, Try.ntmps68
    go_wp2
    go_loopw [1, 5] (fun q i wr => i = .int .i64 0 ∧ q = .int .i64 (k : Int) ∧ wr = w) (fun _ _ _ => 0)
    case atStart => exact ⟨rfl, rfl, rfl⟩
    case round =>
      obtain ⟨rfl, rfl, rfl⟩ := hrel
      go_wp2
      go_ret
      exact ⟨rfl, HO.out, World.grownBy.refl _ _⟩
  · obtain ⟨g, rfl⟩ := g_own_at ho hpos
    have HO : Hid (w.ownsRow lo 77 5 (.slice (some ⟨g, 0, none⟩) n c) n ((mark5 k (es.take 0) ++ es.drop 0).flatMap KE.cells)) := Lib.hid ho
    clear ho hl
    go_enter Try.func68, Try.ntmps68
    go_wp2
    go_loopw [1, 5] (fun q i wr => ∃ j : Nat, j ≤ n ∧ i = .int .i64 j ∧ q = .int .i64 ((k + 5 * j : Nat) : Int) ∧ Hid (wr.ownsRow lo 77 5 (.slice (some ⟨g, 0, none⟩) n c) n ((mark5 k (es.take j) ++ es.drop j).flatMap KE.cells)) ∧ Hid (w.grownBy wr (some g))) (fun _ i _ => n - (intOf i).toNat)
    case atStart => exact ⟨0, Nat.zero_le _, rfl, rfl, HO, Lib.hid (World.grownBy.refl _ _)⟩
    case round =>
      clear HO
      obtain ⟨j, hj, rfl, rfl, hown, hgr⟩ := hrel
      by_cases hlt : j < n
      · obtain ⟨e, he⟩ : ∃ e, es[j]? = some e := ⟨es[j]'(by rw [HL.out]; exact hlt), List.getElem?_eq_getElem _⟩
        have hmk : (mark5 k (es.take j)).length = j := by rw [mark5_len, List.length_take, HL.out]; omega
        have hown2 := hown.out
        rw [g_drop es j e he] at hown2
        have hq := fun i (hi : i < 5) => (hown2.cellAt (j * 5 + i) (by omega)).trans (flat_get KE.cells 5 KE.cells_len _ j i e (g_get _ _ _ _ hmk) hi)
        have hc0 : wr.cell? ⟨g, j * 5, none⟩ = some (.int .i64 e.f) := hq 0 (by omega)
        have hc1 : wr.cell? ⟨g, j * 5 + 1, none⟩ = some (.int .i64 e.t) := hq 1 (by omega)
        have hc2 : wr.cell? ⟨g, j * 5 + 2, none⟩ = some (.int .i64 e.w) := hq 2 (by omega)
        have hc3 : wr.cell? ⟨g, j * 5 + 3, none⟩ = some (.int .i64 e.i) := hq 3 (by omega)
        have hc4 : wr.cell? ⟨g, j * 5 + 4, none⟩ = some (.int .i64 e.v) := hq 4 (by omega)
        have hf0 := hown2.frozenAt (j * 5)
        have hf1 := hown2.frozenAt (j * 5 + 1)
        have hf2 := hown2.frozenAt (j * 5 + 2)
        have hf3 := hown2.frozenAt (j * 5 + 3)
        have hf4 := hown2.frozenAt (j * 5 + 4)
        have HS := Lib.hid (k_lay (e := ⟨((k + 5 * j : Nat) : Int), ((k + 5 * j : Nat) : Int) + 1, ((k + 5 * j : Nat) : Int) + 2, ((k + 5 * j : Nat) : Int) + 3, ((k + 5 * j : Nat) : Int) + 4⟩) hown2 hmk)
        have hb1 : ((k + 5 * j : Nat) : Int) + 1 + 1 = ((k + 5 * j : Nat) : Int) + 2 := by omega
        have hb2 : ((k + 5 * j : Nat) : Int) + 2 + 1 = ((k + 5 * j : Nat) : Int) + 3 := by omega
        have hb3 : ((k + 5 * j : Nat) : Int) + 3 + 1 = ((k + 5 * j : Nat) : Int) + 4 := by omega
        have HE := Lib.hid he
        clear hown hown2 hq he hmk
        have hq0 : k + 5 * j ≤ 40000000 := by omega
        obtain ⟨q, hq⟩ : ∃ q, q = k + 5 * j := ⟨_, rfl⟩
        rw [← hq] at HS hb1 hb2 hb3 hq0
        have HQ := Lib.hid hq
        simp only [← hq]
        clear hq
        go_wp2
        go_roundw
        case rel =>
          refine ⟨j + 1, by omega, by go_num, ?_, Lib.hid ?_, Lib.hid (hgr.out.trans ?_)⟩
          · have := HQ.out
            exact congrArg (Value.int .i64) (by first | omega | (simp only [IntKind.wrap_i64]; omega))
          · have h := HS.out.1
            rw [g_take es j e HE.out, mark5_snoc, List.length_take, HL.out, show min j n = j by omega, ← HQ.out, List.append_assoc]
            exact h
          · exact HS.out.2
        case measure => simp [intOf]; omega
      · obtain rfl : j = n := by omega
        go_wp2
        go_ret
        refine ⟨rfl, ?_, hgr.out⟩
        have h := hown.out
        rw [List.take_of_length_le (by rw [HL.out]; exact Nat.le_refl _), List.drop_eq_nil_of_le (by rw [HL.out]; exact Nat.le_refl _), List.append_nil] at h
        exact h

set_option maxRecDepth 10000 in
set_option maxHeartbeats 1000000 in
theorem heldKs_any (A : Option Addr) (n c k : Nat) (es : List KE) (w : World) (hr : SlK w A n (mark5 k es)) (hn : n ≤ 2097152) (hk : k ≤ 16777216) :
    Calls Try.prog 69 #[.slice A n c, .int .i64 (k : Int)] w (GNum w ((k + 5 * n : Nat) : Int)) := by
  have HR := Lib.hid hr
  have HL : Hid (es.length = n) := Lib.hid (by rw [← hr.len, mark5_len])
  have HG := Lib.hid (fun j (h : j < es.length) => mark5_get es k j h)
  clear hr
  go_enter Try.func69, Try.ntmps69
  go_wp2
  go_loopw [1, 5] (fun q i wr => ∃ j : Nat, j ≤ n ∧ i = .int .i64 j ∧ q = .int .i64 ((k + 5 * j : Nat) : Int) ∧ wr = w) (fun _ i _ => n - (intOf i).toNat)
  case atStart => exact ⟨0, Nat.zero_le _, rfl, rfl, rfl⟩
  case round =>
    obtain ⟨j, hj, rfl, rfl, rfl⟩ := hrel
    by_cases hlt : j < n
    · obtain ⟨b, off, e, rfl, hbw, he, c0, c1, c2, c3, c4⟩ := HR.out.at_ hlt
      have hee : e = ⟨((k + 5 * j : Nat) : Int), ((k + 5 * j : Nat) : Int) + 1, ((k + 5 * j : Nat) : Int) + 2, ((k + 5 * j : Nat) : Int) + 3, ((k + 5 * j : Nat) : Int) + 4⟩ := by
        have h1 := he.out
        rw [HG.out j (by rw [HL.out]; exact hlt)] at h1
        injection h1 with h1
        exact h1.symm
      subst hee
      clear he
      have hq0 : k + 5 * j ≤ 40000000 := by omega
      obtain ⟨q, hq⟩ : ∃ q, q = k + 5 * j := ⟨_, rfl⟩
      simp only [← hq] at c0 c1 c2 c3 c4 hq0 ⊢
      have hb1 : (q : Int) + 1 + 1 = (q : Int) + 2 := by omega
      have hb2 : (q : Int) + 2 + 1 = (q : Int) + 3 := by omega
      have hb3 : (q : Int) + 3 + 1 = (q : Int) + 4 := by omega
      have HQ := Lib.hid hq
      clear hq
      go_wp2
      go_roundw
      case rel =>
        refine ⟨j + 1, by omega, by go_num, ?_, by first | rfl | trivial⟩
        have := HQ.out
        exact congrArg (Value.int .i64) (by first | omega | (simp only [IntKind.wrap_i64]; omega))
      case measure => simp [intOf]; omega
    · obtain rfl : j = n := by omega
      go_wp2
      go_ret
      exact ⟨by first | rfl | trivial, Below.refl _ _⟩
end Go.Proofs.Ytmbabbapcjphgaa
