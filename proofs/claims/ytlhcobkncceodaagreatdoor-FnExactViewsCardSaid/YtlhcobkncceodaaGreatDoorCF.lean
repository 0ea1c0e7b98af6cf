/- Views: the contracts of the laws' helpers that compare. Condition: at most 2^21 views. // Views: the contract of the law's helper that leaves marks. Condition: at most 2^21 views. // Views: the contracts of the laws' helpers that leave marks in them and find them. Condition: at most 2^21 views. -/
import Derived.Test.YtlhcobkncceodaaGreatDoorCE
namespace Go.Proofs.YtlhcobkncceodaaGreatDoor
open Go.RowKit

theorem eqV_any (e : VE) (w : World) :
    Calls Tryz.prog 63 #[.agg #[.bool e.i, .bool e.o, .int .i64 e.w, .int .i64 e.v], .agg #[.bool e.i, .bool e.o, .int .i64 e.w, .int .i64 e.v]] w (GTell w true) := by
  go_enter Tryz.func63, Tryz.ntmps63
  go_wp2
  go_ret
  exact ⟨rfl, below_a2 _ _ _⟩

set_option maxRecDepth 10000 in
set_option maxHeartbeats 1000000 in
theorem eqVs_any (A B : Option Addr) (n c d : Nat) (es : List VE) (w : World) (ha : SlV w A n es) (hb : SlV w B n es) (hn : n ≤ 2097152) :
    Calls Tryz.prog 23 #[.slice A n c, .slice B n d] w (GTell w true) := by
  have HA := Lib.hid ha
  have HB := Lib.hid hb
  have CE := Lib.hid (fun e W => eqV_any e W)
  clear ha hb
  go_enter Tryz.func23, Tryz.ntmps23
  go_wp2
  go_loopw [5] (fun i wr => ∃ k : Nat, k ≤ n ∧ i = .int .i64 k ∧ Hid (Below w.heap.size w wr)) (fun i _ => n - (intOf i).toNat)
  case atStart => exact ⟨0, Nat.zero_le _, rfl, Lib.hid (Below.refl _ _)⟩
  case round =>
    obtain ⟨k, hk, rfl, hbel⟩ := hrel
    by_cases hlt : k < n
    · obtain ⟨b, off, e, rfl, hbw, he, c0, c1, c2, c3⟩ := HA.out.at_ hlt
      obtain ⟨b', off', e', rfl, hbw', he', c0', c1', c2', c3'⟩ := HB.out.at_ hlt
      have hee : e' = e := by have h1 := he.out; rw [he'.out] at h1; injection h1
      subst hee
      have c0 := (hbel.out.cell (p := ⟨b, off + k * 4, none⟩) hbw).trans c0
      have c1 := (hbel.out.cell (p := ⟨b, off + k * 4 + 1, none⟩) hbw).trans c1
      have c2 := (hbel.out.cell (p := ⟨b, off + k * 4 + 2, none⟩) hbw).trans c2
      have c3 := (hbel.out.cell (p := ⟨b, off + k * 4 + 3, none⟩) hbw).trans c3
      have c0' := (hbel.out.cell (p := ⟨b', off' + k * 4, none⟩) hbw').trans c0'
      have c1' := (hbel.out.cell (p := ⟨b', off' + k * 4 + 1, none⟩) hbw').trans c1'
      have c2' := (hbel.out.cell (p := ⟨b', off' + k * 4 + 2, none⟩) hbw').trans c2'
      have c3' := (hbel.out.cell (p := ⟨b', off' + k * 4 + 3, none⟩) hbw').trans c3'
      clear he he'
      go_wp2
      go_region_with (go_at_call 63; ((with_reducible refine (CE.out e' _).mono ?_)); rintro e1 w1 ⟨rfl, hb1⟩)
      all_goals
        go_wp2
        go_roundw
        case rel => exact ⟨k + 1, by omega, by go_num, Lib.hid (by first | exact g_chain hbel.out hb1 | exact g_chain hbel.out.drew hb1 | exact (g_chain hbel.out.drew hb1).drew)⟩
        case measure => simp [intOf]; omega
    · go_wp2
      go_ret
      exact ⟨rfl, hbel.out⟩
end Go.Proofs.YtlhcobkncceodaaGreatDoor
namespace Go.Proofs.YtlhcobkncceodaaGreatDoor
open Go.RowKit

def Marked4 (w : World) (kk : Nat) (A : Option Addr) (n c : Nat) (e : Ending) (w' : World) : Prop :=
  e = .returned (.int .i64 (kk : Int)) ∧ w.grownBy w' (Value.slice A n c).ownBlock

set_option maxRecDepth 10000 in
set_option maxHeartbeats 4000000 in
theorem markVs_any (A : Option Addr) (n c lo k : Nat) (es : List VE) (w : World) (ho : w.ownsRow lo 93 4 (.slice A n c) n (es.flatMap VE.cells)) (hl : es.length = n) (hn : n ≤ 2097152) (hk : k ≤ 16777216) :
    Calls Tryz.prog 29 #[.slice A n c, .int .i64 (k : Int)] w (Marked4 w (k + 4 * n) A n c) := by
  have HL := Lib.hid hl
  rcases Nat.eq_zero_or_pos n with rfl | hpos
  · obtain rfl : es = [] := List.eq_nil_of_length_eq_zero hl
    have HO := Lib.hid ho
    clear ho hl
    go_enter Tryz.func29, Tryz.ntmps29
    go_wp2
    go_loopw [1, 5] (fun q i wr => i = .int .i64 0 ∧ q = .int .i64 (k : Int) ∧ wr = w) (fun _ _ _ => 0)
    case atStart => exact ⟨rfl, rfl, rfl⟩
    case round =>
      obtain ⟨rfl, rfl, rfl⟩ := hrel
      go_wp2
      go_ret
      exact ⟨rfl, World.grownBy.refl _ _⟩
  · obtain ⟨g, rfl⟩ := g_own_at ho hpos
    have HO : Hid (∃ l : List VE, l.length = n ∧ w.ownsRow lo 93 4 (.slice (some ⟨g, 0, none⟩) n c) n (l.flatMap VE.cells)) := Lib.hid ⟨es, hl, ho⟩
    clear ho hl
    go_enter Tryz.func29, Tryz.ntmps29
    go_wp2
    go_loopw [1, 5] (fun q i wr => ∃ j : Nat, j ≤ n ∧ i = .int .i64 (j : Int) ∧ q = .int .i64 ((k + 4 * j : Nat) : Int) ∧ Hid (∃ l : List VE, l.length = n ∧ wr.ownsRow lo 93 4 (.slice (some ⟨g, 0, none⟩) n c) n (l.flatMap VE.cells)) ∧ Hid (w.grownBy wr (some g))) (fun _ i _ => n - (intOf i).toNat)
    case atStart => exact ⟨0, Nat.zero_le _, rfl, rfl, HO, Lib.hid (World.grownBy.refl _ _)⟩
    case round =>
      clear HO
      obtain ⟨j, hj, rfl, rfl, hown, hgr⟩ := hrel
      by_cases hlt : j < n
      · obtain ⟨l, hl, hown2⟩ := hown.out
        have hjl : j < l.length := by omega
        obtain ⟨x, hx⟩ : ∃ x, l[j]? = some x := ⟨l[j], List.getElem?_eq_getElem hjl⟩
        have hq := fun i (hi : i < 4) => (hown2.cellAt (j * 4 + i) (by omega)).trans (flat_get VE.cells 4 VE.cells_len l j i x hx hi)
        have hc0 : wr.cell? ⟨g, j * 4, none⟩ = some (.bool x.i) := hq 0 (by omega)
        have hc1 : wr.cell? ⟨g, j * 4 + 1, none⟩ = some (.bool x.o) := hq 1 (by omega)
        have hc2 : wr.cell? ⟨g, j * 4 + 2, none⟩ = some (.int .i64 x.w) := hq 2 (by omega)
        have hc3 : wr.cell? ⟨g, j * 4 + 3, none⟩ = some (.int .i64 x.v) := hq 3 (by omega)
        have hf0 := hown2.frozenAt (j * 4)
        have hf1 := hown2.frozenAt (j * 4 + 1)
        have hf2 := hown2.frozenAt (j * 4 + 2)
        have hf3 := hown2.frozenAt (j * 4 + 3)
        obtain ⟨q, hqq⟩ : ∃ q, q = k + 4 * j := ⟨_, rfl⟩
        have hqb : q ≤ 40000000 := by omega
        obtain ⟨z0, hz0⟩ : ∃ z0 : Int, z0 = (q : Int) := ⟨_, rfl⟩
        have hm0 : ∃ m0 : Int, Int.tmod z0 3 = m0 ∧ IntKind.i64.wrap m0 = m0 := ⟨_, rfl, IntWalk.i64_in _ (by rw [Int.tmod_eq_emod_of_nonneg (by omega)]; omega)⟩
        obtain ⟨m0, hm0, hm0w⟩ := hm0
        have hm1 : ∃ m1 : Int, Int.tmod (z0 + 1) 3 = m1 ∧ IntKind.i64.wrap m1 = m1 := ⟨_, rfl, IntWalk.i64_in _ (by rw [Int.tmod_eq_emod_of_nonneg (by omega)]; omega)⟩
        obtain ⟨m1, hm1, hm1w⟩ := hm1
        have ha1 : IntKind.i64.wrap (z0 + 1) = z0 + 1 := IntWalk.i64_in _ (by omega)
        have ha2 : IntKind.i64.wrap (z0 + 1 + 1) = z0 + 2 := (IntWalk.i64_in _ (by omega)).trans (by omega)
        have ha3 : IntKind.i64.wrap (z0 + 2 + 1) = z0 + 3 := (IntWalk.i64_in _ (by omega)).trans (by omega)
        have ha4 : IntKind.i64.wrap (z0 + 3 + 1) = z0 + 4 := (IntWalk.i64_in _ (by omega)).trans (by omega)
        have hs : l = l.take j ++ x :: l.drop (j + 1) := by
          obtain ⟨h1, rfl⟩ := List.getElem?_eq_some_iff.1 hx
          simp
        have hmk : (l.take j).length = j := by rw [List.length_take]; omega
        rw [hs] at hown2
        have HS := Lib.hid (v_lay (e := ⟨(m0 == 0), (m1 == 0), z0 + 2, z0 + 3⟩) hown2 hmk)
        have HLL : Hid ((l.take j ++ (⟨(m0 == 0), (m1 == 0), z0 + 2, z0 + 3⟩ : VE) :: l.drop (j + 1)).length = n) := Lib.hid (by rw [List.length_append, List.length_cons, List.length_take, List.length_drop]; omega)
        have HQ := Lib.hid hqq
        have HZ := Lib.hid hz0
        simp only [← hqq, ← hz0]
        clear hown hown2 hq hx hmk hs hqq hz0 hl hjl
        generalize l.take j ++ (⟨(m0 == 0), (m1 == 0), z0 + 2, z0 + 3⟩ : VE) :: l.drop (j + 1) = l2 at HS HLL
        go_wp2
        go_roundw
        case rel =>
          refine ⟨j + 1, by omega, by go_num, ?_, Lib.hid ⟨l2, HLL.out, HS.out.1⟩, Lib.hid (hgr.out.trans HS.out.2)⟩
          have := HQ.out
          have := HZ.out
          exact congrArg (Value.int .i64) (by omega)
        case measure => simp [intOf]; omega
      · obtain rfl : j = n := by omega
        go_wp2
        go_ret
        exact ⟨rfl, hgr.out⟩
end Go.Proofs.YtlhcobkncceodaaGreatDoor
namespace Go.Proofs.YtlhcobkncceodaaGreatDoor
open Go.RowKit

def markE (k : Nat) : VE := ⟨(Int.tmod (k : Int) 3 == 0), (Int.tmod ((k : Int) + 1) 3 == 0), (k : Int) + 2, (k : Int) + 3⟩
def mark4 (k n : Nat) : List VE := (List.range n).map fun i => markE (k + 4 * i)
theorem mark4_len (k n : Nat) : (mark4 k n).length = n := by simp [mark4]
theorem mark4_succ (k n : Nat) : mark4 k (n + 1) = mark4 k n ++ [markE (k + 4 * n)] := by simp [mark4, List.range_succ]
theorem mark4_get (k n j : Nat) (h : j < n) : (mark4 k n)[j]? = some (markE (k + 4 * j)) := by simp [mark4, h]
def MarkedV (w : World) (lo k : Nat) (A : Option Addr) (n c : Nat) (e : Ending) (w' : World) : Prop :=
  e = .returned (.int .i64 ((k + 4 * n : Nat) : Int)) ∧ w'.ownsRow lo 93 4 (.slice A n c) n ((mark4 k n).flatMap VE.cells) ∧ w.grownBy w' (Value.slice A n c).ownBlock

set_option maxRecDepth 10000 in
set_option maxHeartbeats 4000000 in
theorem markV4_any (A : Option Addr) (n c lo k : Nat) (es : List VE) (w : World) (ho : w.ownsRow lo 93 4 (.slice A n c) n (es.flatMap VE.cells)) (hl : es.length = n) (hn : n ≤ 2097152) (hk : k ≤ 16777216) :
    Calls Tryz.prog 29 #[.slice A n c, .int .i64 (k : Int)] w (MarkedV w lo k A n c) := by
  have HL := Lib.hid hl
  rcases Nat.eq_zero_or_pos n with rfl | hpos
  · obtain rfl : es = [] := List.eq_nil_of_length_eq_zero hl
    have HO := Lib.hid ho
    clear ho hl
    go_enter Tryz.func29, Tryz.ntmps29
    go_wp2
    go_loopw [1, 5] (fun q i wr => i = .int .i64 0 ∧ q = .int .i64 (k : Int) ∧ wr = w) (fun _ _ _ => 0)
    case atStart => exact ⟨rfl, rfl, rfl⟩
    case round =>
      obtain ⟨rfl, rfl, rfl⟩ := hrel
      go_wp2
      go_ret
      exact ⟨rfl, HO.out, World.grownBy.refl _ _⟩
  · obtain ⟨g, rfl⟩ := g_own_at ho hpos
    have HO : Hid (w.ownsRow lo 93 4 (.slice (some ⟨g, 0, none⟩) n c) n ((mark4 k 0 ++ es.drop 0).flatMap VE.cells)) := Lib.hid (by simpa [mark4] using ho)
    clear ho hl
    go_enter Tryz.func29, Tryz.ntmps29
    go_wp2
    go_loopw [1, 5] (fun q i wr => ∃ j : Nat, j ≤ n ∧ i = .int .i64 (j : Int) ∧ q = .int .i64 ((k + 4 * j : Nat) : Int) ∧ Hid (wr.ownsRow lo 93 4 (.slice (some ⟨g, 0, none⟩) n c) n ((mark4 k j ++ es.drop j).flatMap VE.cells)) ∧ Hid (w.grownBy wr (some g))) (fun _ i _ => n - (intOf i).toNat)
    case atStart => exact ⟨0, Nat.zero_le _, rfl, rfl, HO, Lib.hid (World.grownBy.refl _ _)⟩
    case round =>
      clear HO
      obtain ⟨j, hj, rfl, rfl, hown, hgr⟩ := hrel
      by_cases hlt : j < n
      · have hown2 := hown.out
        obtain ⟨x, hx0⟩ : ∃ x, es[j]? = some x := ⟨_, List.getElem?_eq_getElem (by have := HL.out; omega)⟩
        rw [g_drop es j x hx0] at hown2
        have hmk : (mark4 k j).length = j := mark4_len k j
        have hx : (mark4 k j ++ x :: es.drop (j + 1))[j]? = some x := g_get _ _ _ _ hmk
        have hq := fun i (hi : i < 4) => (hown2.cellAt (j * 4 + i) (by omega)).trans (flat_get VE.cells 4 VE.cells_len _ j i x hx hi)
        have hc0 : wr.cell? ⟨g, j * 4, none⟩ = some (.bool x.i) := hq 0 (by omega)
        have hc1 : wr.cell? ⟨g, j * 4 + 1, none⟩ = some (.bool x.o) := hq 1 (by omega)
        have hc2 : wr.cell? ⟨g, j * 4 + 2, none⟩ = some (.int .i64 x.w) := hq 2 (by omega)
        have hc3 : wr.cell? ⟨g, j * 4 + 3, none⟩ = some (.int .i64 x.v) := hq 3 (by omega)
        have hf0 := hown2.frozenAt (j * 4)
        have hf1 := hown2.frozenAt (j * 4 + 1)
        have hf2 := hown2.frozenAt (j * 4 + 2)
        have hf3 := hown2.frozenAt (j * 4 + 3)
        obtain ⟨q, hqq⟩ : ∃ q, q = k + 4 * j := ⟨_, rfl⟩
        have hqb : q ≤ 40000000 := by omega
        obtain ⟨z0, hz0⟩ : ∃ z0 : Int, z0 = (q : Int) := ⟨_, rfl⟩
        have hm0 : ∃ m0 : Int, Int.tmod z0 3 = m0 ∧ IntKind.i64.wrap m0 = m0 := ⟨_, rfl, IntWalk.i64_in _ (by rw [Int.tmod_eq_emod_of_nonneg (by omega)]; omega)⟩
        obtain ⟨m0, hm0, hm0w⟩ := hm0
        have hm1 : ∃ m1 : Int, Int.tmod (z0 + 1) 3 = m1 ∧ IntKind.i64.wrap m1 = m1 := ⟨_, rfl, IntWalk.i64_in _ (by rw [Int.tmod_eq_emod_of_nonneg (by omega)]; omega)⟩
        obtain ⟨m1, hm1, hm1w⟩ := hm1
        have ha1 : IntKind.i64.wrap (z0 + 1) = z0 + 1 := IntWalk.i64_in _ (by omega)
        have ha2 : IntKind.i64.wrap (z0 + 1 + 1) = z0 + 2 := (IntWalk.i64_in _ (by omega)).trans (by omega)
        have ha3 : IntKind.i64.wrap (z0 + 2 + 1) = z0 + 3 := (IntWalk.i64_in _ (by omega)).trans (by omega)
        have ha4 : IntKind.i64.wrap (z0 + 3 + 1) = z0 + 4 := (IntWalk.i64_in _ (by omega)).trans (by omega)
        have HS := Lib.hid (v_lay (e := ⟨(m0 == 0), (m1 == 0), z0 + 2, z0 + 3⟩) hown2 hmk)
        have HME : Hid ((mark4 k j ++ (⟨(m0 == 0), (m1 == 0), z0 + 2, z0 + 3⟩ : VE) :: es.drop (j + 1)) = mark4 k (j + 1) ++ es.drop (j + 1)) := Lib.hid (by
          rw [mark4_succ, List.append_assoc]
          unfold markE
          rw [← hqq, ← hz0, hm0, hm1]
          rfl)
        have HQ := Lib.hid hqq
        have HZ := Lib.hid hz0
        simp only [← hqq, ← hz0]
        clear hown hown2 hq hx hx0 hmk hqq hz0
        rw [HME.out] at HS
        clear HME
        go_wp2
        go_roundw
        case rel =>
          refine ⟨j + 1, by omega, by go_num, ?_, Lib.hid HS.out.1, Lib.hid (hgr.out.trans HS.out.2)⟩
          have := HQ.out
          have := HZ.out
          exact congrArg (Value.int .i64) (by omega)
        case measure => simp [intOf]; omega
      · obtain rfl : j = n := by omega
        go_wp2
        go_ret
        have h9 := hown.out
        rw [List.drop_eq_nil_of_le (by have := HL.out; omega), List.append_nil] at h9
        exact ⟨rfl, h9, hgr.out⟩
set_option maxRecDepth 10000 in
set_option maxHeartbeats 1000000 in
theorem heldV4_any (A : Option Addr) (n c k : Nat) (w : World) (hr : SlV w A n (mark4 k n)) (hn : n ≤ 2097152) (hk : k ≤ 16777216) :
    Calls Tryz.prog 31 #[.slice A n c, .int .i64 (k : Int)] w (GNum w ((k + 4 * n : Nat) : Int)) := by
  have HR := Lib.hid hr
  clear hr
  go_enter Tryz.func31, Tryz.ntmps31
  go_wp2
  go_loopw [1, 5] (fun q i wr => ∃ j : Nat, j ≤ n ∧ i = .int .i64 (j : Int) ∧ q = .int .i64 ((k + 4 * j : Nat) : Int) ∧ wr = w) (fun _ i _ => n - (intOf i).toNat)
  case atStart => exact ⟨0, Nat.zero_le _, rfl, rfl, by first | rfl | trivial⟩
  case round =>
    obtain ⟨j, hj, rfl, rfl, rfl⟩ := hrel
    by_cases hlt : j < n
    · obtain ⟨b, off, e, rfl, hbw, he, c0, c1, c2, c3⟩ := HR.out.at_ hlt
      have hee : e = markE (k + 4 * j) := by
        have h1 := he.out
        rw [mark4_get k n j hlt] at h1
        injection h1 with h1
        exact h1.symm
      subst hee
      clear he
      unfold markE at c0 c1 c2 c3
      obtain ⟨q, hqq⟩ : ∃ q, q = k + 4 * j := ⟨_, rfl⟩
      have hqb : q ≤ 40000000 := by omega
      obtain ⟨z0, hz0⟩ : ∃ z0 : Int, z0 = (q : Int) := ⟨_, rfl⟩
      have hm0 : ∃ m0 : Int, Int.tmod z0 3 = m0 ∧ IntKind.i64.wrap m0 = m0 := ⟨_, rfl, IntWalk.i64_in _ (by rw [Int.tmod_eq_emod_of_nonneg (by omega)]; omega)⟩
      obtain ⟨m0, hm0, hm0w⟩ := hm0
      have hm1 : ∃ m1 : Int, Int.tmod (z0 + 1) 3 = m1 ∧ IntKind.i64.wrap m1 = m1 := ⟨_, rfl, IntWalk.i64_in _ (by rw [Int.tmod_eq_emod_of_nonneg (by omega)]; omega)⟩
      obtain ⟨m1, hm1, hm1w⟩ := hm1
      have ha1 : IntKind.i64.wrap (z0 + 1) = z0 + 1 := IntWalk.i64_in _ (by omega)
      have ha2 : IntKind.i64.wrap (z0 + 1 + 1) = z0 + 2 := (IntWalk.i64_in _ (by omega)).trans (by omega)
      have ha3 : IntKind.i64.wrap (z0 + 2 + 1) = z0 + 3 := (IntWalk.i64_in _ (by omega)).trans (by omega)
      have ha4 : IntKind.i64.wrap (z0 + 3 + 1) = z0 + 4 := (IntWalk.i64_in _ (by omega)).trans (by omega)
      have hb0 : ((m0 == 0) != (m0 == 0)) = false := by simp
      have hb1 : ((m1 == 0) != (m1 == 0)) = false := by simp
      have HQ := Lib.hid hqq
      have HZ := Lib.hid hz0
      simp only [← hqq, ← hz0, hm0, hm1] at c0 c1 c2 c3 ⊢
      clear hqq hz0
      go_wp2
      go_roundw
      case rel =>
        refine ⟨j + 1, by omega, by go_num, ?_, by first | rfl | trivial⟩
        have := HQ.out
        have := HZ.out
        exact congrArg (Value.int .i64) (by omega)
      case measure => simp [intOf]; omega
    · obtain rfl : j = n := by omega
      go_wp2
      go_ret
      exact ⟨rfl, Below.refl _ _⟩
end Go.Proofs.YtlhcobkncceodaaGreatDoor
