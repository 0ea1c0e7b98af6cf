/- Edges, graphs and numbers: the contracts of the laws' helpers that compare and that leave marks. Condition: at most 2^21 of each. // Parted from YtlhcobkncceodaaDoorGrEq: the contracts of the functions that only their own laws reach. // The contracts of the laws' helpers that leave marks in one shard and find them; those on bytes and numbers, said of memory alone. Condition: at most 2^21 edges, bytes or numbers. // Sets as arguments of the laws: the laws' helpers that measure one, copy it, compare two, leave marks in one and find them; the opening of one that came in. Condition: at most 2^21 bytes. // What the opening of an argument that is a graph, or a list of records of three numbers, is told by (no condition). // The opening of an argument that is a graph. // Degrees as data, and a row of numbers that is counted in (no condition). // Slices of numbers as arguments of the laws: the helper that copies one into new memory; the opening of one that came in. Condition: at most 2^21 numbers. // Words for the walks of laws whose function answers numbers: rows of numbers of a call's own, from call to call. // Words for slices of views in memory (plain lemmas over the model; no condition): 'SlV': a slice that reads as a list of records of two truth values and two numbers; such a list laid record by record. // The opening of an argument that is a job, or a list of views (no condition). // Views: what new ones are (no condition). // Views: the contracts of the laws' helpers that measure and copy. Condition: at most 2^21 views. // What stays where another row of the call's own is written; the law's helper that looks for marks in numbers, said of memory alone (plain lemmas over the model; condition: at most 2^21 numbers). // Writings in blocks of a set alone, and what a row of the call's own has for a block (plain lemmas over the model; no condition). // Runs in memory as arguments of the laws: the laws' helpers that measure one, copy it, compare two, leave marks in one and find them; the opening of one that came in. Condition: at most 2^20 numbers and bytes together. // Runs in memory as arguments of the laws: marks in one, and the opening of one that came in. Condition: at most 2^20 numbers and bytes. // The contracts of the program's small functions on sets: the weights of a byte, the bytes for a number of vertices, whether a vertex is marked, marking and unmarking it. -/
import Derived.Test.YtlhcobkncceodaaDoorCGA
import Derived.Test.YtlhcobkncceodaaDoorCGB
namespace Go.Proofs.YtlhcobkncceodaaDoor
open Go.RowKit

theorem eqEdge_any (e : GE) (w : World) :
    Calls Tryd.prog 64 #[.agg #[.int .i64 e.f, .int .i64 e.t, .int .i64 e.w], .agg #[.int .i64 e.f, .int .i64 e.t, .int .i64 e.w]] w (GTell w true) := by
  go_enter Tryd.func64, Tryd.ntmps64
  go_wp2
  go_ret
  exact ⟨rfl, below_a2 _ _ _⟩

set_option maxRecDepth 10000 in
set_option maxHeartbeats 1000000 in
theorem eqEdges_any (A B : Option Addr) (n c d : Nat) (es : List GE) (w : World) (ha : SlG w A n es) (hb : SlG w B n es) (hn : n ≤ 2097152) :
    Calls Tryd.prog 35 #[.slice A n c, .slice B n d] w (GTell w true) := by
  have HA := Lib.hid ha
  have HB := Lib.hid hb
  have CE := Lib.hid (fun e W => eqEdge_any e W)
  clear ha hb
  go_enter Tryd.func35, Tryd.ntmps35
  go_wp2
  go_loopw [5] (fun i wr => ∃ k : Nat, k ≤ n ∧ i = .int .i64 k ∧ Hid (Below w.heap.size w wr)) (fun i _ => n - (intOf i).toNat)
  case atStart => exact ⟨0, Nat.zero_le _, rfl, Lib.hid (Below.refl _ _)⟩
  case round =>
    obtain ⟨k, hk, rfl, hbel⟩ := hrel
    by_cases hlt : k < n
    · obtain ⟨b, off, e, rfl, hbw, he, c0, c1, c2⟩ := HA.out.at_ hlt
      obtain ⟨b', off', e', rfl, hbw', he', c0', c1', c2'⟩ := HB.out.at_ hlt
      have hee : e' = e := by have h1 := he.out; rw [he'.out] at h1; injection h1
      subst hee
      have c0 := (hbel.out.cell (p := ⟨b, off + k * 3, none⟩) hbw).trans c0
      have c1 := (hbel.out.cell (p := ⟨b, off + k * 3 + 1, none⟩) hbw).trans c1
      have c2 := (hbel.out.cell (p := ⟨b, off + k * 3 + 2, none⟩) hbw).trans c2
      have c0' := (hbel.out.cell (p := ⟨b', off' + k * 3, none⟩) hbw').trans c0'
      have c1' := (hbel.out.cell (p := ⟨b', off' + k * 3 + 1, none⟩) hbw').trans c1'
      have c2' := (hbel.out.cell (p := ⟨b', off' + k * 3 + 2, none⟩) hbw').trans c2'
      clear he he'
      go_wp2
      go_region_with (go_at_call 64; ((with_reducible refine (CE.out e' _).mono ?_)); rintro e1 w1 ⟨rfl, hb1⟩)
      all_goals
        go_wp2
        go_roundw
        case rel => exact ⟨k + 1, by omega, by go_num, Lib.hid (by first | exact g_chain hbel.out hb1 | exact g_chain hbel.out.drew hb1 | exact (g_chain hbel.out.drew hb1).drew)⟩
        case measure => simp [intOf]; omega
    · go_wp2
      go_ret
      exact ⟨rfl, hbel.out⟩
theorem eqGraph_any (N : Int) (A B : Option Addr) (n c d : Nat) (es : List GE) (w : World) (ha : SlG w A n es) (hb : SlG w B n es) (hn : n ≤ 2097152) :
    Calls Tryd.prog 11 #[.agg #[.int .i64 N, .slice A n c], .agg #[.int .i64 N, .slice B n d]] w (GTell w true) := by
  have CE := Lib.hid (fun W (h : Below w.heap.size w W) => eqEdges_any A B n c d es W (ha.below h) (hb.below h) hn)
  clear ha hb
  go_enter Tryd.func11, Tryd.ntmps11
  go_wp2_with fail
  refine (CE.out _ (below_a2 _ _ _)).mono ?_
  rintro e w1 ⟨rfl, hb1⟩
  go_wp2
  go_ret
  exact ⟨rfl, g_chain (below_a2 _ _ _) hb1⟩

def MarkedG (w : World) (lo k : Nat) (A : Option Addr) (n c : Nat) (es : List GE) (e : Ending) (w' : World) : Prop :=
  e = .returned (.int .i64 ((k + 3 * n : Nat) : Int)) ∧ w'.ownsRow lo 76 3 (.slice A n c) n ((markG k es).flatMap GE.cells) ∧ w.grownBy w' (Value.slice A n c).ownBlock

set_option maxRecDepth 10000 in
set_option maxHeartbeats 1000000 in
theorem markEdges_any (A : Option Addr) (n c lo k : Nat) (es : List GE) (w : World) (ho : w.ownsRow lo 76 3 (.slice A n c) n (es.flatMap GE.cells)) (hl : es.length = n) (hn : n ≤ 2097152) (hk : k ≤ 8388608) :
    Calls Tryd.prog 47 #[.slice A n c, .int .i64 (k : Int)] w (MarkedG w lo k A n c es) := by
  have HL := Lib.hid hl
  rcases Nat.eq_zero_or_pos n with rfl | hpos
  · obtain rfl : es = [] := List.eq_nil_of_length_eq_zero hl
    have HO := Lib.hid ho
    clear ho hl
    go_enter Tryd.func47, Tryd.ntmps47
    go_wp2
    go_loopw [1, 5] (fun q i wr => i = .int .i64 0 ∧ q = .int .i64 (k : Int) ∧ wr = w) (fun _ _ _ => 0)
    case atStart => exact ⟨rfl, rfl, rfl⟩
    case round =>
      obtain ⟨rfl, rfl, rfl⟩ := hrel
      go_wp2
      go_ret
      exact ⟨rfl, HO.out, World.grownBy.refl _ _⟩
  · obtain ⟨g, rfl⟩ := g_own_at ho hpos
    have HO : Hid (w.ownsRow lo 76 3 (.slice (some ⟨g, 0, none⟩) n c) n ((markG k (es.take 0) ++ es.drop 0).flatMap GE.cells)) := Lib.hid ho
    clear ho hl
    go_enter Tryd.func47, Tryd.ntmps47
    go_wp2
    go_loopw [1, 5] (fun q i wr => ∃ j : Nat, j ≤ n ∧ i = .int .i64 j ∧ q = .int .i64 ((k + 3 * j : Nat) : Int) ∧ Hid (wr.ownsRow lo 76 3 (.slice (some ⟨g, 0, none⟩) n c) n ((markG k (es.take j) ++ es.drop j).flatMap GE.cells)) ∧ Hid (w.grownBy wr (some g))) (fun _ i _ => n - (intOf i).toNat)
    case atStart => exact ⟨0, Nat.zero_le _, rfl, rfl, HO, Lib.hid (World.grownBy.refl _ _)⟩
    case round =>
      clear HO
      obtain ⟨j, hj, rfl, rfl, hown, hgr⟩ := hrel
      by_cases hlt : j < n
      · obtain ⟨e, he⟩ : ∃ e, es[j]? = some e := ⟨es[j]'(by rw [HL.out]; exact hlt), List.getElem?_eq_getElem _⟩
        have hmk : (markG k (es.take j)).length = j := by rw [markG_len, List.length_take, HL.out]; omega
        have hown2 := hown.out
        rw [g_drop es j e he] at hown2
        have hq := fun i (hi : i < 3) => (hown2.cellAt (j * 3 + i) (by omega)).trans (flat_get GE.cells 3 GE.cells_len _ j i e (g_get _ _ _ _ hmk) hi)
        have hc0 : wr.cell? ⟨g, j * 3, none⟩ = some (.int .i64 e.f) := hq 0 (by omega)
        have hc1 : wr.cell? ⟨g, j * 3 + 1, none⟩ = some (.int .i64 e.t) := hq 1 (by omega)
        have hc2 : wr.cell? ⟨g, j * 3 + 2, none⟩ = some (.int .i64 e.w) := hq 2 (by omega)
        have hf0 := hown2.frozenAt (j * 3)
        have hf1 := hown2.frozenAt (j * 3 + 1)
        have hf2 := hown2.frozenAt (j * 3 + 2)
        have HS := Lib.hid (g_lay (e := ⟨((k + 3 * j : Nat) : Int), ((k + 3 * j : Nat) : Int) + 1, ((k + 3 * j : Nat) : Int) + 2⟩) hown2 hmk)
        have hb1 : ((k + 3 * j : Nat) : Int) + 1 + 1 = ((k + 3 * j : Nat) : Int) + 2 := by omega
        have HE := Lib.hid he
        clear hown hown2 hq he hmk
        have hq0 : k + 3 * j ≤ 20000000 := by omega
        obtain ⟨q, hq⟩ : ∃ q, q = k + 3 * j := ⟨_, rfl⟩
        rw [← hq] at HS hb1 hq0
        have HQ := Lib.hid hq
        simp only [← hq]
        clear hq
        go_wp2
        go_roundw
        case rel =>
          refine ⟨j + 1, by omega, by go_num, ?_, Lib.hid ?_, Lib.hid (hgr.out.trans ?_)⟩
          · have := HQ.out
            exact congrArg (Value.int .i64) (by first | omega | (simp only [IntKind.wrap_i64]; omega))
          · have h := HS.out.1
            rw [g_take es j e HE.out, markG_snoc, List.length_take, HL.out, show min j n = j by omega, ← HQ.out, List.append_assoc]
            exact h
          · exact HS.out.2
        case measure => simp [intOf]; omega
      · obtain rfl : j = n := by omega
        go_wp2
        go_ret
        refine ⟨rfl, ?_, hgr.out⟩
        have h := hown.out
        rw [List.take_of_length_le (by rw [HL.out]; exact Nat.le_refl _), List.drop_eq_nil_of_le (by rw [HL.out]; exact Nat.le_refl _), List.append_nil] at h
        exact h
theorem markGraph_any (N : Int) (A : Option Addr) (n c lo k : Nat) (es : List GE) (w : World) (ho : w.ownsRow lo 76 3 (.slice A n c) n (es.flatMap GE.cells)) (hl : es.length = n) (hn : n ≤ 2097152) (hk : k ≤ 8388608) :
    Calls Tryd.prog 16 #[.agg #[.int .i64 N, .slice A n c], .int .i64 (k : Int)] w fun e w' => e = .returned (.int .i64 ((k + 3 * n : Nat) : Int)) ∧ w.grownBy w' (Value.slice A n c).ownBlock := by
  have C := Lib.hid (fun W (h : Below w.heap.size w W) => markEdges_any A n c lo k es W (own_below ho h) hl hn hk)
  clear ho
  go_enter Tryd.func16, Tryd.ntmps16
  go_wp2_with fail
  refine (C.out _ (below_a1 _ _)).mono ?_
  rintro e w1 ⟨rfl, ho1, hg1⟩
  have HG := Lib.hid (grownBy_trans (grownBy_of_below (below_a1 w (.cells #[.int .i64 N, .slice A n c] 38)) _) hg1)
  clear ho1 hg1
  go_wp2
  go_ret
  exact ⟨rfl, HG.out⟩
end Go.Proofs.YtlhcobkncceodaaDoor
namespace Go.Proofs.YtlhcobkncceodaaDoor
open Go.RowKit

set_option maxRecDepth 10000 in
set_option maxHeartbeats 1000000 in
theorem eqInts_any (A B : Option Addr) (n c d : Nat) (xs : List Int) (w : World) (ha : SlI w A n xs) (hb : SlI w B n xs) (hn : n ≤ 2097152) :
    Calls Tryd.prog 37 #[.slice A n c, .slice B n d] w (GTell w true) := by
  have HA := Lib.hid ha
  have HB := Lib.hid hb
  clear ha hb
  go_enter Tryd.func37, Tryd.ntmps37
  go_wp2
  go_loopw [5] (fun i wr => ∃ k : Nat, k ≤ n ∧ i = .int .i64 k ∧ Hid (Below w.heap.size w wr)) (fun i _ => n - (intOf i).toNat)
  case atStart => exact ⟨0, Nat.zero_le _, rfl, Lib.hid (Below.refl _ _)⟩
  case round =>
    obtain ⟨k, hk, rfl, hbel⟩ := hrel
    by_cases hlt : k < n
    · obtain ⟨b, off, e, rfl, hbw, he, c0⟩ := HA.out.at_ hlt
      obtain ⟨b', off', e', rfl, hbw', he', c0'⟩ := HB.out.at_ hlt
      have hee : e' = e := by have h1 := he.out; rw [he'.out] at h1; injection h1
      subst hee
      have c0 := (hbel.out.cell (p := ⟨b, off + k, none⟩) hbw).trans c0
      have c0' := (hbel.out.cell (p := ⟨b', off' + k, none⟩) hbw').trans c0'
      clear he he'
      go_wp2
      go_region
      go_wp2
      go_roundw
      case rel => exact ⟨k + 1, by omega, by go_num, Lib.hid (by first | exact hbel.out | exact hbel.out.drew | exact hbel.out.drew.drew)⟩
      case measure => simp [intOf]; omega
    · go_wp2
      go_ret
      exact ⟨rfl, hbel.out⟩

set_option maxRecDepth 10000 in
set_option maxHeartbeats 1000000 in
theorem markInts_any (A : Option Addr) (n c lo k : Nat) (xs : List Int) (w : World) (ho : w.ownsRow lo 3 1 (.slice A n c) n (vi xs)) (hn : n ≤ 2097152) (hk : k ≤ 8388608) :
    Calls Tryd.prog 48 #[.slice A n c, .int .i64 (k : Int)] w (MarkedI w lo k A n c) := by
  have hl : xs.length = n := by have := ho.1; rw [vi_len] at this; omega
  have HL := Lib.hid hl
  rcases Nat.eq_zero_or_pos n with rfl | hpos
  · obtain rfl : xs = [] := List.eq_nil_of_length_eq_zero hl
    have HO := Lib.hid ho
    clear ho hl
    go_enter Tryd.func48, Tryd.ntmps48
    go_wp2
    go_loopw [1, 5] (fun q i wr => i = .int .i64 0 ∧ q = .int .i64 (k : Int) ∧ wr = w) (fun _ _ _ => 0)
    case atStart => exact ⟨rfl, rfl, rfl⟩
    case round =>
      obtain ⟨rfl, rfl, rfl⟩ := hrel
      go_wp2
      go_ret
      exact ⟨rfl, HO.out, World.grownBy.refl _ _⟩
  · obtain ⟨g, rfl⟩ := g_own_at ho hpos
    have HO : Hid (w.ownsRow lo 3 1 (.slice (some ⟨g, 0, none⟩) n c) n (vi (markI k xs 0))) := Lib.hid (by rw [markI_zero]; exact ho)
    clear ho hl
    go_enter Tryd.func48, Tryd.ntmps48
    go_wp2
    go_loopw [1, 5] (fun q i wr => ∃ j : Nat, j ≤ n ∧ i = .int .i64 j ∧ q = .int .i64 ((k + j : Nat) : Int) ∧ Hid (wr.ownsRow lo 3 1 (.slice (some ⟨g, 0, none⟩) n c) n (vi (markI k xs j))) ∧ Hid (w.grownBy wr (some g))) (fun _ i _ => n - (intOf i).toNat)
    case atStart => exact ⟨0, Nat.zero_le _, rfl, rfl, HO, Lib.hid (World.grownBy.refl _ _)⟩
    case round =>
      clear HO
      obtain ⟨j, hj, rfl, rfl, hown, hgr⟩ := hrel
      by_cases hlt : j < n
      · have hc := hown.out.cellAt j (by omega)
        have hx : (vi (markI k xs j))[j]? = some (.int .i64 (xs[j]'(by rw [HL.out]; exact hlt))) := by
          rw [vi_get]
          unfold markI
          rw [List.getElem?_append_right (by rw [ints_len]; exact Nat.le_refl _), ints_len, Nat.sub_self, List.getElem?_drop, Nat.add_zero, List.getElem?_eq_getElem]
          rfl
        have hc0 := hc.trans hx
        have hf0 := hown.out.frozenAt j
        have HS := Lib.hid (hown.out.stored j (.int .i64 ((k + j : Nat) : Int)))
        rw [markI_step k xs j (by rw [HL.out]; exact hlt)] at HS
        clear hc hx hown
        go_wp2
        go_roundw
        case rel => exact ⟨j + 1, by omega, by go_num, by go_num, Lib.hid HS.out.1, Lib.hid (hgr.out.trans HS.out.2)⟩
        case measure => simp [intOf]; omega
      · obtain rfl : j = n := by omega
        go_wp2
        go_ret
        refine ⟨rfl, ?_, hgr.out⟩
        have h := hown.out
        rw [show markI k xs j = ints k j by rw [← HL.out, markI_full]] at h
        exact h

set_option maxRecDepth 10000 in
set_option maxHeartbeats 1000000 in
theorem heldInts_any (A : Option Addr) (n c k : Nat) (w : World) (hr : SlI w A n (ints k n)) (hn : n ≤ 2097152) (hk : k ≤ 8388608) :
    Calls Tryd.prog 50 #[.slice A n c, .int .i64 (k : Int)] w fun e w' => e = .returned (.int .i64 ((k + n : Nat) : Int)) ∧ w = w' := by
  have HR := Lib.hid hr
  clear hr
  go_enter Tryd.func50, Tryd.ntmps50
  go_wp2
  go_loopw [1, 5] (fun q i wr => ∃ j : Nat, j ≤ n ∧ i = .int .i64 j ∧ q = .int .i64 ((k + j : Nat) : Int) ∧ wr = w) (fun _ i _ => n - (intOf i).toNat)
  case atStart => exact ⟨0, Nat.zero_le _, rfl, by rfl, by first | rfl | trivial⟩
  case round =>
    obtain ⟨j, hj, rfl, rfl, rfl⟩ := hrel
    by_cases hlt : j < n
    · obtain ⟨b, off, e, rfl, hbw, he, c0⟩ := HR.out.at_ hlt
      obtain rfl : e = ((k + j : Nat) : Int) := by have h1 := he.out; rw [ints_get k n j hlt] at h1; injection h1 with h1; exact h1.symm
      go_wp2
      go_roundw
      case rel => exact ⟨j + 1, by omega, by go_num, by go_num, by first | rfl | trivial⟩
      case measure => simp [intOf]; omega
    · obtain rfl : j = n := by omega
      go_wp2
      go_ret
      exact ⟨rfl, rfl⟩

end Go.Proofs.YtlhcobkncceodaaDoor
namespace Go.Proofs.YtlhcobkncceodaaDoor
open Go.RowKit

theorem HBox.far {w w' : World} {b n c : Nat} {lo hi : Int} {A : Option Addr} (h : HBox w b lo hi A n c) {row : Option Nat} (hg : w.grownBy w' row) {l2 h2 : Nat} (hb : ∀ k, row = some k → l2 ≤ k ∧ k < h2) (hd : b < l2 ∨ h2 ≤ b) : HBox w' b lo hi A n c :=
  h.keep hg.size (hg.block _ h.lt (fun e => by have := hb b e.symm; omega))
end Go.Proofs.YtlhcobkncceodaaDoor
namespace Go.Proofs.YtlhcobkncceodaaDoor
open Go.RowKit
set_option linter.unusedVariables false

set_option maxHeartbeats 400000 in
theorem eqSet_any (kind : Int) (a b : Dat) (w : World) (ha : a.Ok w) (hb : b.Ok w) (hx : a.xs = b.xs) (hn : a.n ≤ 2097152) :
    Calls Tryd.prog 38 #[.agg #[.int .i64 kind, .slice a.A a.n a.c], .agg #[.int .i64 kind, .slice b.A b.n b.c]] w (FTell w true) := by
  have hnn : a.n = b.n := by rw [← ha.rd.len, ← hb.rd.len, hx]
  have C := Lib.hid (fun w' (h : Below w.heap.size w w') => same_any a.A b.A a.n a.c b.c a.xs w' (ha.rd.below h) (by rw [hnn, hx]; exact hb.rd.below h) hn)
  obtain ⟨A1, n1, c1, xs1⟩ := a
  obtain ⟨A2, n2, c2, xs2⟩ := b
  simp only at hnn hx
  subst hnn hx
  clear ha hb
  go_enter Tryd.func38, Tryd.ntmps38
  go_wp2_with fail
  refine (C.out _ (below_a2 _ _ _)).mono ?_
  rintro e w1 ⟨rfl, k, rfl⟩
  go_wp2
  go_ret
  exact ⟨rfl, below_drewN (below_a2 _ _ _) k⟩


section
variable {H : Type} {enc : TypeId × Value → H} {w : World} {base : Nat} {spare : Nat → Bool} {held : Bool}
end


theorem markSet_any (kind : Int) (A : Option Addr) (n c lo k : Nat) (xs : List Nat) (w : World) (ho : w.ownsRow lo 5 1 (.slice A n c) n (vb xs)) (hn : n ≤ 2097152) (hk : k ≤ 8388608) :
    Calls Tryd.prog 49 #[.agg #[.int .i64 kind, .slice A n c], .int .i64 (k : Int)] w (MarkedK w lo k A n c) := by
  have C := Lib.hid (markB_any A n c lo k xs (w.alloc (.cells #[.int .i64 kind, .slice A n c] 41)) (ho.alloc _) hn hk)
  clear ho
  go_enter Tryd.func49, Tryd.ntmps49
  go_wp2_with fail
  refine C.out.mono ?_
  rintro e w1 ⟨rfl, ho1, hg⟩
  have HO := Lib.hid ho1
  have HG := Lib.hid hg
  clear ho1 hg
  go_wp2
  go_ret
  exact ⟨rfl, HO.out, grownBy_trans (grownBy_of_below (below_a1 w _) _) HG.out⟩
theorem heldSet_any (kind : Int) (A : Option Addr) (n c k : Nat) (w : World) (hr : Rd w A n (marksK k n)) (hn : n ≤ 2097152) (hk : k ≤ 8388608) :
    Calls Tryd.prog 51 #[.agg #[.int .i64 kind, .slice A n c], .int .i64 (k : Int)] w (FNum w ((k + n : Nat) : Int)) := by
  have C := Lib.hid (fun W (h : Below w.heap.size w W) => heldB_any A n c k W (hr.below h) hn hk)
  have hp : (0 : Int) ≤ ((k + n : Nat) : Int) := by omega
  generalize k + n = q at C hp ⊢
  clear hr
  go_enter Tryd.func51, Tryd.ntmps51
  go_wp2_with fail
  refine (C.out _ (below_a1 _ _)).mono ?_
  rintro e w1 ⟨rfl, rfl⟩
  go_wp2
  go_ret
  exact ⟨rfl, below_a1 _ _⟩
/-! ### as the laws' walks take them -/
theorem eqSet_is (N : Int) (A A' : Option Addr) (c c' : Nat) (xs : List Nat) (w : World) (h1 : Rd w A xs.length xs) (h2 : Rd w A' xs.length xs) (hc : xs.length ≤ c) (hc' : xs.length ≤ c') (hn : xs.length ≤ 2097152) :
    Calls Tryd.prog 38 #[.agg #[.int .i64 N, .slice A xs.length c], .agg #[.int .i64 N, .slice A' xs.length c']] w (GTell w true) :=
  eqSet_any N ⟨A, xs.length, c, xs⟩ ⟨A', xs.length, c', xs⟩ w ⟨h1, hc⟩ ⟨h2, hc'⟩ rfl hn
theorem Box2.new1 (w : World) (o : Obj) (v0 v1 : Value) (t : TypeId) : Box2 ((w.alloc o).alloc (.cells #[v0, v1] t)) (w.heap.size + 1) v0 v1 := by
  have h := Box2.new (w.alloc o) v0 v1 t
  rw [World.size_alloc] at h
  exact h
theorem SBx.box {w : World} {b n c : Nat} {N : Int} {A : Option Addr} (h : SBx w b N A n c) : Box2 w b (.int .i64 N) (.slice A n c) := ⟨h.parts.1, h.parts.2.1, h.parts.2.2.1⟩
end Go.Proofs.YtlhcobkncceodaaDoor
namespace Go.Proofs.YtlhcobkncceodaaDoor
open Go.RowKit

def edgeSh : Sh := .pair (.int .i64) (.pair (.int .i64) (.int .i64))
def grSh : Sh := .pair (.int .i64) (.sl edgeSh)
theorem g_build {α : Type} (f : α → List Value) (k : Nat) (hf : ∀ a, (f a).length = k) (Q : α → Prop) (w : World) (b off : Nat) : ∀ (n : Nat), (∀ j, j < n → ∃ a, Q a ∧ ∀ (i : Nat) (v : Value), (f a)[i]? = some v → w.cell? ⟨b, off + j * k + i, none⟩ = some v) →
    ∃ es : List α, es.length = n ∧ (∀ (j : Nat) (v : Value), (es.flatMap f)[j]? = some v → w.cell? ⟨b, off + j, none⟩ = some v) ∧ ∀ a ∈ es, Q a
  | 0, _ => ⟨[], rfl, fun j v hv => by simp at hv, by simp⟩
  | m + 1, h => by
    obtain ⟨es, h1, h2, h3⟩ := g_build f k hf Q w b off m (fun j hj => h j (by omega))
    obtain ⟨a, ha, hc⟩ := h m (by omega)
    refine ⟨es ++ [a], by simp [h1], fun j v hv => ?_, fun x hx => ?_⟩
    · have hl : (es.flatMap f).length = m * k := by rw [flat_len f k hf, h1]
      rw [flat_snoc] at hv
      rcases Nat.lt_or_ge j (m * k) with hj | hj
      · rw [List.getElem?_append_left (by omega)] at hv
        exact h2 j v hv
      · rw [List.getElem?_append_right (by omega), hl] at hv
        have := hc (j - m * k) v hv
        rw [show off + m * k + (j - m * k) = off + j by omega] at this
        exact this
    · rcases List.mem_append.1 hx with hx | hx
      · exact h3 x hx
      · simp at hx
        subst hx
        exact ha

def EdgeIn (e : GE) : Prop := (Lit.int .i64 e.f).wf = true ∧ (Lit.int .i64 e.t).wf = true ∧ (Lit.int .i64 e.w).wf = true
theorem RdR.edge {lo hi : Nat} {w : World} {cs : List Value} {d : edgeSh.D} (h : RdR lo hi w edgeSh cs d) : ∃ e : GE, cs = e.cells ∧ EdgeIn e := by
  obtain ⟨c1, c2, e, h1, ⟨hk, hwf⟩, hb⟩ := h
  obtain ⟨c3, c4, e', h2, ⟨hk', hwf'⟩, hc, hwf''⟩ := hb
  exact ⟨⟨d.1, d.2.1, d.2.2⟩, by rw [e, hk, e', hk', hc]; rfl, hwf, hwf', hwf''⟩
/-- What a walk is told of a graph that came in. -/
structure GrIn (w : World) (N : Int) (A : Option Addr) (n : Nat) (es : List GE) : Prop where
  N : (Lit.int .i64 N).wf = true
  g : SlG w A n es
  l : n ≤ maxLen
  e : ∀ e ∈ es, EdgeIn e
theorem RdR.edges {lo hi : Nat} {w : World} {cs : List Value} {ds : List edgeSh.D} (h : RdR lo hi w (.sl edgeSh) cs ds) (hh : hi ≤ w.heap.size) : ∃ A n c es, cs = [.slice A n c] ∧ SlG w A n es ∧ n ≤ c ∧ n ≤ maxLen ∧ ∀ e ∈ es, EdgeIn e := by
  obtain ⟨A, n, c, e1, e2, e3, e4, h⟩ := h
  rcases Nat.eq_zero_or_pos n with h0 | h0
  · subst h0
    exact ⟨A, 0, c, [], e1, SlG.nil, e3, by omega, by simp⟩
  · obtain ⟨b, off, eA, _, hb, hall⟩ := h h0
    obtain ⟨es, h1, h2, h3⟩ := g_build GE.cells 3 GE.cells_len EdgeIn w b off n (fun j hj => by
      have hjl : j < ds.length := by omega
      obtain ⟨cs, _, hc, hr⟩ := hall j (ds[j]'hjl) (List.getElem?_eq_getElem hjl)
      obtain ⟨e, rfl, he⟩ := RdR.edge hr
      exact ⟨e, he, hc⟩)
    exact ⟨A, n, c, es, e1, ⟨h1, ⟨by rw [flat_len _ 3 GE.cells_len, h1], fun _ => ⟨b, off, eA, by omega, h2⟩⟩⟩, e3, by omega, h3⟩
theorem RdR.graph {lo hi : Nat} {w : World} {cs : List Value} {d : grSh.D} (h : RdR lo hi w grSh cs d) (hh : hi ≤ w.heap.size) : ∃ N A n c es, cs = [.int .i64 N, .slice A n c] ∧ GrIn w N A n es := by
  obtain ⟨c1, c2, e, h1, ⟨hk, hwf⟩, hb⟩ := h
  obtain ⟨A, n, c, es, ea, hg, _, hl, he⟩ := RdR.edges hb hh
  exact ⟨d.1, A, n, c, es, by rw [e, hk, ea]; rfl, ⟨hwf, hg, hl, he⟩⟩

end Go.Proofs.YtlhcobkncceodaaDoor
namespace Go.Proofs.YtlhcobkncceodaaDoor
open Go.RowKit

section
variable {H : Type} {enc : TypeId × Value → H} {w : World} {base : Nat} {spare : Nat → Bool} {held : Bool}
theorem Tryd.cellsGi : Tryd.prog.cellsOf 3 = 1 := by kernel_rfl
theorem Tryd.cellsEd : Tryd.prog.cellsOf 84 = 3 := by kernel_rfl
theorem Tryd.cellsSEd : Tryd.prog.cellsOf 22 = 1 := by kernel_rfl
theorem Tryd.cellsGr : Tryd.prog.cellsOf 24 = 2 := by kernel_rfl
theorem opensEdge : Opens enc Tryd.prog w base spare held 84 edgeSh :=
  opens_struct Tryd.underlying84 Tryd.cellsEd (opensF_cons rfl Tryd.cellsGi (opens_int Tryd.underlying3) (opensF_cons rfl Tryd.cellsGi (opens_int Tryd.underlying3) (opensF_last rfl Tryd.cellsGi (opens_int Tryd.underlying3))))
theorem opensGraph : Opens enc Tryd.prog w base spare held 24 grSh :=
  opens_struct Tryd.underlying24 Tryd.cellsGr (opensF_cons rfl Tryd.cellsGi (opens_int Tryd.underlying3) (opensF_last rfl Tryd.cellsSEd (opens_sl Tryd.underlying22 Tryd.cellsEd (by decide) opensEdge)))

set_option maxRecDepth 100000 in
theorem open_graph {r : Reach} {b0 : Nat} {v : Value} {d : DataW H} {p : List MemPlace} (hv : Value.okWide Tryd.prog w r b0 24 v) (h : DataW.Trod enc Tryd.prog w base spare held 24 v d p) :
    ∃ N A n c es, v = .agg #[.int .i64 N, .slice A n c] ∧ GrIn w N A n es := by
  obtain ⟨cs, rfl, _⟩ := Go.WideShapes.okWide_struct Tryd.underlying24 hv
  obtain ⟨fuel, hf⟩ := h
  obtain ⟨x, hx⟩ := opensGraph _ _ _ hf
  obtain ⟨N, A, n, c, es, he, hi⟩ := hx.graph (Nat.le_refl _)
  refine ⟨N, A, n, c, es, ?_, hi⟩
  have : cs.toList = [.int .i64 N, .slice A n c] := by simpa [Value.cells] using he
  cases cs
  simp only at this
  rw [this]
end
end Go.Proofs.YtlhcobkncceodaaDoor
namespace Go.Proofs.YtlhcobkncceodaaDoor
open Go.RowKit

/-- One more at place i. -/
def bump (l : List Int) (i : Nat) : List Int := l.set i (l.getD i 0 + 1)
def degs (key : GE → Int) (n : Nat) (es : List GE) : List Int := es.foldl (fun l e => bump l (key e).toNat) (List.replicate n 0)
def degsOf (key : GE → Int) (N : Int) (es : List GE) : List Int := if graphB N es then degs key N.toNat es else []
theorem bump_len (l : List Int) (i : Nat) : (bump l i).length = l.length := by simp [bump]
theorem degs_snoc (key : GE → Int) (n : Nat) (es : List GE) (e : GE) : degs key n (es ++ [e]) = bump (degs key n es) (key e).toNat := by simp [degs]
theorem fold_len (key : GE → Int) : ∀ (es : List GE) (l : List Int), (es.foldl (fun l e => bump l (key e).toNat) l).length = l.length
  | [], _ => rfl
  | e :: r, l => by rw [List.foldl_cons, fold_len key r, bump_len]
theorem degs_len (key : GE → Int) (n : Nat) (es : List GE) : (degs key n es).length = n := by
  unfold degs
  rw [fold_len]
  simp
theorem bump_bound {l : List Int} {i : Nat} {q : Int} (h : ∀ x ∈ l, 0 ≤ x ∧ x ≤ q) (hq : 0 ≤ q) : ∀ x ∈ bump l i, 0 ≤ x ∧ x ≤ q + 1 := by
  intro x hx
  unfold bump at hx
  rcases List.mem_or_eq_of_mem_set hx with hx | rfl
  · have := h x hx; omega
  · rw [List.getD_eq_getElem?_getD]
    cases hh : l[i]? with
    | none => simp; omega
    | some y => have := h y (List.mem_of_getElem? hh); simp; omega
theorem fold_bound (key : GE → Int) : ∀ (es : List GE) (l : List Int) (q : Int), 0 ≤ q → (∀ x ∈ l, 0 ≤ x ∧ x ≤ q) → ∀ x ∈ es.foldl (fun l e => bump l (key e).toNat) l, 0 ≤ x ∧ x ≤ q + es.length
  | [], l, q, _, h => by simpa using h
  | e :: r, l, q, hq, h => by
    intro x hx
    rw [List.foldl_cons] at hx
    have := fold_bound key r _ (q + 1) (by omega) (bump_bound h hq) x hx
    rw [List.length_cons]
    omega
theorem degs_bound (key : GE → Int) (n : Nat) (es : List GE) : ∀ x ∈ degs key n es, 0 ≤ x ∧ x ≤ es.length := by
  intro x hx
  have := fold_bound key es (List.replicate n 0) 0 (by omega) (fun y hy => by rw [List.eq_of_mem_replicate hy]; omega) x hx
  omega
theorem vi_bump (l : List Int) (i : Nat) (v : Int) : (vi l).set i (.int .i64 v) = vi (l.set i v) := by simp [vi, List.map_set]

def OwI (w : World) (lo : Nat) (A : Option Addr) (n c : Nat) (xs : List Int) : Prop := w.ownsRow lo 3 1 (.slice A n c) n (vi xs)
def MadeI (w : World) (xs : List Int) (e : Ending) (w' : World) : Prop :=
  ∃ A n c, e = .returned (.slice A n c) ∧ OwI w' w.heap.size A n c xs ∧ Below w.heap.size w w'
theorem flat_one : ∀ xs : List Int, xs.flatMap (fun x : Int => [Value.int .i64 x]) = vi xs
  | [] => rfl
  | x :: r => by rw [List.flatMap_cons, flat_one r]; rfl
theorem made_zero (M : Nat) (key : GE → Int) (es : List GE) : (madeCells (Value.int .i64 0).cells (M * 1)).toList = vi (degs key M (es.take 0)) := by
  rw [g_rep (fun x : Int => [Value.int .i64 x]) 0 1 (fun _ => rfl) (by omega) (Value.int .i64 0).cells rfl M, flat_one]
  rfl
theorem degs_at {key : GE → Int} {M : Nat} {es : List GE} {f : Nat} (hf : f < M) : ∃ x : Int, (degs key M es)[f]? = some x ∧ 0 ≤ x ∧ x ≤ es.length := by
  have hl : f < (degs key M es).length := by rw [degs_len]; exact hf
  exact ⟨(degs key M es)[f], List.getElem?_eq_getElem hl, degs_bound key M es _ (List.getElem_mem hl)⟩
theorem degs_step {key : GE → Int} {M k : Nat} {es : List GE} {e : GE} {f : Nat} {x : Int} (he : es[k]? = some e) (hk : key e = (f : Int)) (hx : (degs key M (es.take k))[f]? = some x) : vi (degs key M (es.take (k + 1))) = (vi (degs key M (es.take k))).set f (.int .i64 (x + 1)) := by
  rw [g_take es k e he, degs_snoc, hk, Int.toNat_natCast, vi_bump]
  unfold bump
  rw [List.getD_eq_getElem?_getD, hx]
  rfl

end Go.Proofs.YtlhcobkncceodaaDoor
namespace Go.Proofs.YtlhcobkncceodaaDoor
open Go.RowKit

/-! ### one that came in -/
section
variable {H : Type} {enc : TypeId × Value → H} {w : World} {base : Nat} {spare : Nat → Bool} {held : Bool}
end
end Go.Proofs.YtlhcobkncceodaaDoor
namespace Go.Proofs.YtlhcobkncceodaaDoor
open Go.RowKit

section
variable {w w' : World} {lo n c : Nat} {A : Option Addr} {xs : List Int}
theorem OwI.below (h : OwI w lo A n c xs) (hb : Below w.heap.size w w') : OwI w' lo A n c xs := own_below h hb
theorem OwI.rd (h : OwI w lo A n c xs) : SlI w A n xs := SlI.of_own h
end
/-- The law's own graph: its box and its edges. -/
structure XBox (w : World) (lo b : Nat) (N : Int) (A : Option Addr) (n c : Nat) (es : List GE) : Prop where
  box : NBox w b N A n c
  own : w.ownsRow lo 76 3 (.slice A n c) n (es.flatMap GE.cells)
theorem XBox.below {w w' : World} {lo b n c : Nat} {N : Int} {A : Option Addr} {es : List GE} (h : XBox w lo b N A n c es) (hb : Below w.heap.size w w') : XBox w' lo b N A n c es := ⟨h.box.below hb, own_below h.own hb⟩
end Go.Proofs.YtlhcobkncceodaaDoor
namespace Go.Proofs.YtlhcobkncceodaaDoor
open Go.RowKit

def VE.cells (e : VE) : List Value := [.bool e.i, .bool e.o, .int .i64 e.w, .int .i64 e.v]
theorem VE.cells_len (e : VE) : e.cells.length = 4 := rfl
/-- A slice of shard edges in memory. -/
structure SlV (w : World) (A : Option Addr) (n : Nat) (es : List VE) : Prop where
  len : es.length = n
  row : Row w 4 A n (es.flatMap VE.cells)
section
variable {w w' : World} {n c lo e : Nat} {A : Option Addr} {es : List VE}
theorem SlV.keep (h : SlV w A n es) (hs : w.heap.size ≤ w'.heap.size) (hk : ∀ i, i < w.heap.size → w'.heap[i]? = w.heap[i]?) : SlV w' A n es := ⟨h.len, h.row.keep hs hk⟩
theorem SlV.below (h : SlV w A n es) (hb : Below w.heap.size w w') : SlV w' A n es := h.keep hb.size hb.block
theorem SlV.nil : SlV w A 0 [] := ⟨rfl, Row.nil⟩
/-- The view at place j, its four cells. -/
theorem SlV.at_ {j : Nat} (h : SlV w A n es) (hj : j < n) : ∃ (b off : Nat) (e : VE), A = some ⟨b, off, none⟩ ∧ b < w.heap.size ∧ Hid (es[j]? = some e) ∧
    w.cell? ⟨b, off + j * 4, none⟩ = some (.bool e.i) ∧ w.cell? ⟨b, off + j * 4 + 1, none⟩ = some (.bool e.o) ∧ w.cell? ⟨b, off + j * 4 + 2, none⟩ = some (.int .i64 e.w) ∧ w.cell? ⟨b, off + j * 4 + 3, none⟩ = some (.int .i64 e.v) := by
  obtain ⟨b, off, rfl, hb, hc⟩ := h.row.lies (by omega)
  have hl : j < es.length := by have := h.len; omega
  have he : es[j]? = some es[j] := List.getElem?_eq_getElem hl
  refine ⟨b, off, es[j], rfl, hb, he, ?_, ?_, ?_, ?_⟩
  · exact hc (j * 4) _ (flat_get VE.cells 4 VE.cells_len es j 0 _ he (by omega))
  · exact hc (j * 4 + 1) _ (flat_get VE.cells 4 VE.cells_len es j 1 _ he (by omega))
  · exact hc (j * 4 + 2) _ (flat_get VE.cells 4 VE.cells_len es j 2 _ he (by omega))
  · exact hc (j * 4 + 3) _ (flat_get VE.cells 4 VE.cells_len es j 3 _ he (by omega))
theorem SlV.of_own (h : w.ownsRow lo e 4 (.slice A n c) n (es.flatMap VE.cells)) (hl : es.length = n) : SlV w A n es := ⟨hl, Row.of_own h⟩
end
end Go.Proofs.YtlhcobkncceodaaDoor
namespace Go.Proofs.YtlhcobkncceodaaDoor
open Go.RowKit

def jobSh : Sh := .pair (.int .i64) (.int .i64)
def viewSh : Sh := .pair .bool (.pair .bool (.pair (.int .i64) (.int .i64)))
def ViewIn (e : VE) : Prop := (Lit.int .i64 e.w).wf = true ∧ (Lit.int .i64 e.v).wf = true
theorem RdR.view {lo hi : Nat} {w : World} {cs : List Value} {d : viewSh.D} (h : RdR lo hi w viewSh cs d) : ∃ e : VE, cs = e.cells ∧ ViewIn e := by
  obtain ⟨c1, r1, e1, h1, hk1, hb⟩ := h
  obtain ⟨c2, r2, e2, h2, hk2, hb⟩ := hb
  obtain ⟨c3, r3, e3, h3, ⟨hk3, hw3⟩, hk4, hw4⟩ := hb
  have hk1' : c1 = [.bool d.1] := hk1
  have hk2' : c2 = [.bool d.2.1] := hk2
  exact ⟨⟨d.1, d.2.1, d.2.2.1, d.2.2.2⟩, by rw [e1, hk1', e2, hk2', e3, hk3, hk4]; rfl, hw3, hw4⟩
theorem RdR.views {lo hi : Nat} {w : World} {cs : List Value} {ds : List viewSh.D} (h : RdR lo hi w (.sl viewSh) cs ds) (hh : hi ≤ w.heap.size) : ∃ A n c es, cs = [.slice A n c] ∧ SlV w A n es ∧ n ≤ c ∧ n ≤ maxLen ∧ ∀ e ∈ es, ViewIn e := by
  obtain ⟨A, n, c, e1, e2, e3, e4, h⟩ := h
  rcases Nat.eq_zero_or_pos n with h0 | h0
  · subst h0
    exact ⟨A, 0, c, [], e1, SlV.nil, e3, by omega, by simp⟩
  · obtain ⟨b, off, eA, _, hb, hall⟩ := h h0
    obtain ⟨es, h1, h2, h3⟩ := g_build VE.cells 4 VE.cells_len ViewIn w b off n (fun j hj => by
      have hjl : j < ds.length := by omega
      obtain ⟨cs, _, hc, hr⟩ := hall j (ds[j]'hjl) (List.getElem?_eq_getElem hjl)
      obtain ⟨e, rfl, he⟩ := RdR.view hr
      exact ⟨e, he, hc⟩)
    exact ⟨A, n, c, es, e1, ⟨h1, ⟨by rw [flat_len _ 4 VE.cells_len, h1], fun _ => ⟨b, off, eA, by omega, h2⟩⟩⟩, e3, by omega, h3⟩
section
variable {H : Type} {enc : TypeId × Value → H} {w : World} {base : Nat} {spare : Nat → Bool} {held : Bool}
theorem Tryd.cellsVi : Tryd.prog.cellsOf 3 = 1 := by kernel_rfl
theorem Tryd.cellsJob : Tryd.prog.cellsOf 26 = 2 := by kernel_rfl
theorem opensJob : Opens enc Tryd.prog w base spare held 26 jobSh :=
  opens_struct Tryd.underlying26 Tryd.cellsJob (opensF_cons rfl Tryd.cellsVi (opens_int Tryd.underlying3) (opensF_last rfl Tryd.cellsVi (opens_int Tryd.underlying3)))
set_option maxRecDepth 100000 in
theorem open_job {r : Reach} {b0 : Nat} {v : Value} {d : DataW H} {p : List MemPlace} (hv : Value.okWide Tryd.prog w r b0 26 v) (h : DataW.Trod enc Tryd.prog w base spare held 26 v d p) :
    ∃ a s : Int, v = .agg #[.int .i64 a, .int .i64 s] ∧ ((Lit.int .i64 a).wf = true ∧ (Lit.int .i64 s).wf = true) := by
  obtain ⟨cs, rfl, _⟩ := Go.WideShapes.okWide_struct Tryd.underlying26 hv
  obtain ⟨fuel, hf⟩ := h
  obtain ⟨x, hx⟩ := opensJob _ _ _ hf
  obtain ⟨c1, c2, e, h1, ⟨hk, hwf⟩, hk2, hwf2⟩ := hx
  refine ⟨x.1, x.2, ?_, hwf, hwf2⟩
  have : cs.toList = [.int .i64 x.1, .int .i64 x.2] := by
    have e9 : (Value.agg cs).cells.toList = c1 ++ c2 := e
    rw [hk, hk2] at e9
    simpa [Value.cells] using e9
  cases cs
  simp only at this
  rw [this]
end
section
variable {H : Type} {enc : TypeId × Value → H} {w : World} {base : Nat} {spare : Nat → Bool} {held : Bool}
end
end Go.Proofs.YtlhcobkncceodaaDoor
namespace Go.Proofs.YtlhcobkncceodaaDoor
open Go.RowKit

end Go.Proofs.YtlhcobkncceodaaDoor
namespace Go.Proofs.YtlhcobkncceodaaDoor
open Go.RowKit

theorem toJob_any (p s : Int) (w : World) :
    Calls Tryd.prog 14 #[.agg #[.int .i64 p, .int .i64 s]] w fun r w' => r = .returned (.agg #[.int .i64 p, .int .i64 s]) ∧ Below w.heap.size w w' := by
  go_enter Tryd.func14, Tryd.ntmps14
  go_wp2
  refine bodyPost_ret (v := .agg #[.int .i64 p, .int .i64 s]) (by simp [results, Tryd.results14, go_sem]) rfl ⟨rfl, ?_⟩
  repeat (first | exact below_a3 _ _ _ _ | refine Below.setCell ?_ (by simp <;> omega) _)
end Go.Proofs.YtlhcobkncceodaaDoor
namespace Go.Proofs.YtlhcobkncceodaaDoor
open Go.RowKit

theorem heldZ_any (A : Option Addr) (n c k : Nat) (w : World) (hr : SlI w A n (ints k n)) (hn : n ≤ 2097152) (hk : k ≤ 8388608) :
    Calls Tryd.prog 50 #[.slice A n c, .int .i64 (k : Int)] w (GNum w ((k + n : Nat) : Int)) := by
  refine (heldInts_any A n c k w hr hn hk).mono ?_
  rintro e w' ⟨rfl, rfl⟩
  exact ⟨rfl, Below.refl _ _⟩
theorem Blk.far {w w' : World} {b : Nat} {cs : Array Value} {t : TypeId} (h : Blk w b cs t) {row : Option Nat} (hg : w.grownBy w' row) {l2 h2 : Nat} (hb : ∀ k, row = some k → l2 ≤ k ∧ k < h2) (hd : b < l2 ∨ h2 ≤ b) : Blk w' b cs t :=
  h.grown hg (fun e => by have := hb b e; omega)
end Go.Proofs.YtlhcobkncceodaaDoor
namespace Go.Proofs.YtlhcobkncceodaaDoor
open Go.RowKit

/-- Nothing is written but in blocks of S, and new ones. -/
structure OnlyB (S : Nat → Prop) (w w' : World) : Prop where
  os : w'.os = w.os
  tape : w'.tape = w.tape
  output : w'.output = w.output
  size : w.heap.size ≤ w'.heap.size
  block : ∀ k, k < w.heap.size → ¬ S k → w'.heap[k]? = w.heap[k]?
theorem OnlyB.refl (S : Nat → Prop) (w : World) : OnlyB S w w := ⟨rfl, rfl, rfl, Nat.le_refl _, fun _ _ _ => rfl⟩
theorem OnlyB.trans {S : Nat → Prop} {a b c : World} (h : OnlyB S a b) (k : OnlyB S b c) : OnlyB S a c :=
  ⟨k.os.trans h.os, k.tape.trans h.tape, k.output.trans h.output, Nat.le_trans h.size k.size, fun i hi hn => (k.block i (Nat.lt_of_lt_of_le hi h.size) hn).trans (h.block i hi hn)⟩
theorem OnlyB.grown {S : Nat → Prop} {a b c : World} {row : Option Nat} (h : OnlyB S a b) (k : b.grownBy c row) (hr : ∀ i, row = some i → S i) : OnlyB S a c :=
  h.trans ⟨k.os, k.tape, k.output, k.size, fun i hi hn => k.block i hi (fun e => hn (hr i e.symm))⟩
theorem OnlyB.below {S : Nat → Prop} {a b c : World} (h : OnlyB S a b) (k : Below b.heap.size b c) : OnlyB S a c :=
  h.trans ⟨k.os, k.tape, k.output, k.size, fun i hi _ => k.block i hi⟩
theorem OnlyB.mono {S T : Nat → Prop} {a b : World} (h : OnlyB S a b) (hs : ∀ i, S i → T i) : OnlyB T a b :=
  ⟨h.os, h.tape, h.output, h.size, fun i hi hn => h.block i hi (fun e => hn (hs i e))⟩
theorem OnlyB.toBelow {S : Nat → Prop} {B : Nat} {w w' : World} (h : OnlyB S w w') (hB : B ≤ w.heap.size) (hs : ∀ k, S k → B ≤ k) : Below B w w' :=
  ⟨h.os, h.tape, h.output, h.size, fun k hk => h.block k (by omega) (fun e => by have := hs k e; omega)⟩
theorem OnlyB.own {S : Nat → Prop} {w w' : World} {lo e size n : Nat} {v : Value} {xs : List Value} (h : w.ownsRow lo e size v n xs) (k : OnlyB S w w') (hs : ∀ g, v.ownBlock = some g → ¬ S g) : w'.ownsRow lo e size v n xs := by
  refine ⟨h.1, ?_⟩
  rcases h.2 with hn | ⟨g, cap, cur, rfl, hb, hgg, rest⟩
  · exact .inl hn
  · refine .inr ⟨g, cap, cur, rfl, hb, ?_, rest⟩
    rw [k.block g (Array.getElem?_eq_some_iff.1 hgg).1 (hs g rfl)]
    exact hgg
end Go.Proofs.YtlhcobkncceodaaDoor
namespace Go.Proofs.YtlhcobkncceodaaDoor
open Go.RowKit
set_option linter.unusedVariables false

theorem eqJob_any (p s : Int) (w : World) :
    Calls Tryd.prog 36 #[.agg #[.int .i64 p, .int .i64 s], .agg #[.int .i64 p, .int .i64 s]] w (GTell w true) := by
  go_enter Tryd.func36, Tryd.ntmps36
  go_wp2
  go_ret
  exact ⟨rfl, below_a2 _ _ _⟩
set_option maxHeartbeats 2000000 in
theorem eqRun_any (r : RD) (A : Option Addr) (c : Nat) (B : Option Addr) (d : Nat) (C : Option Addr) (k : Nat) (A' : Option Addr) (c' : Nat) (B' : Option Addr) (d' : Nat) (C' : Option Addr) (k' : Nat) (w : World) (h1 : RunR w r A B C) (h2 : RunR w r A' B' C') (hk : r.nx.length ≤ k) (hk' : r.nx.length ≤ k') (hv : r.vs.length ≤ 2097152) (he : r.ev.length ≤ 2097152) (hx : r.nx.length ≤ 2097152) :
    Calls Tryd.prog 12 #[.agg #[.int .i64 r.p, .int .i64 r.s, .int .i64 r.it, .bool r.dn, .slice A r.vs.length c, .slice B r.ev.length d, .int .i64 r.nn, .slice C r.nx.length k], .agg #[.int .i64 r.p, .int .i64 r.s, .int .i64 r.it, .bool r.dn, .slice A' r.vs.length c', .slice B' r.ev.length d', .int .i64 r.nn, .slice C' r.nx.length k']] w (GTell w true) := by
  have CJ := Lib.hid (fun w => eqJob_any r.p r.s w)
  have CV := Lib.hid (fun W (h : Below w.heap.size w W) => eqInts_any A A' r.vs.length c c' r.vs W (h1.v.below h) (h2.v.below h) hv)
  have CE := Lib.hid (fun W (h : Below w.heap.size w W) => eqInts_any B B' r.ev.length d d' r.ev W (h1.e.below h) (h2.e.below h) he)
  have CX := Lib.hid (fun W (h : Below w.heap.size w W) => eqSet_is r.nn C C' k k' r.nx W (h1.x.below h) (h2.x.below h) hk hk' hx)
  have BX := Lib.hid ((Blk.new w #[.int .i64 r.p, .int .i64 r.s, .int .i64 r.it, .bool r.dn, .slice A r.vs.length c, .slice B r.ev.length d, .int .i64 r.nn, .slice C r.nx.length k] 43).alloc (.cells #[.int .i64 r.p, .int .i64 r.s, .int .i64 r.it, .bool r.dn, .slice A' r.vs.length c', .slice B' r.ev.length d', .int .i64 r.nn, .slice C' r.nx.length k'] 43))
  have BY := Lib.hid (Blk.new (w.alloc (.cells #[.int .i64 r.p, .int .i64 r.s, .int .i64 r.it, .bool r.dn, .slice A r.vs.length c, .slice B r.ev.length d, .int .i64 r.nn, .slice C r.nx.length k] 43)) #[.int .i64 r.p, .int .i64 r.s, .int .i64 r.it, .bool r.dn, .slice A' r.vs.length c', .slice B' r.ev.length d', .int .i64 r.nn, .slice C' r.nx.length k'] 43)
  have H0 := Lib.hid (below_a2 w (.cells #[.int .i64 r.p, .int .i64 r.s, .int .i64 r.it, .bool r.dn, .slice A r.vs.length c, .slice B r.ev.length d, .int .i64 r.nn, .slice C r.nx.length k] 43) (.cells #[.int .i64 r.p, .int .i64 r.s, .int .i64 r.it, .bool r.dn, .slice A' r.vs.length c', .slice B' r.ev.length d', .int .i64 r.nn, .slice C' r.nx.length k'] 43))
  rw [World.size_alloc] at BY
  clear h1 h2
  have hd : (r.dn != r.dn) = false := by simp
  go_enter Tryd.func12, Tryd.ntmps12
  go_wp2_with fail
  refine (CJ.out _).mono ?_
  rintro e w1 ⟨rfl, hb⟩
  have H1 := Lib.hid (g_chain H0.out hb)
  replace BX := Lib.hid (BX.out.below hb)
  replace BY := Lib.hid (BY.out.below hb)
  clear hb
  have x2 := BX.out.cell (i := 2) rfl
  have y2 := BY.out.cell (i := 2) rfl
  have x3 := BX.out.cell (i := 3) rfl
  have y3 := BY.out.cell (i := 3) rfl
  have x4 := BX.out.cell (i := 4) rfl
  have y4 := BY.out.cell (i := 4) rfl
  go_wp2_with fail
  refine (CV.out _ H1.out).mono ?_
  rintro e w2 ⟨rfl, hb⟩
  have H2 := Lib.hid (g_chain H1.out hb)
  replace BX := Lib.hid (BX.out.below hb)
  replace BY := Lib.hid (BY.out.below hb)
  clear hb x2 y2 x3 y3 x4 y4
  have x5 := BX.out.cell (i := 5) rfl
  have y5 := BY.out.cell (i := 5) rfl
  go_wp2_with fail
  refine (CE.out _ H2.out).mono ?_
  rintro e w3 ⟨rfl, hb⟩
  have H3 := Lib.hid (g_chain H2.out hb)
  replace BX := Lib.hid (BX.out.below hb)
  replace BY := Lib.hid (BY.out.below hb)
  clear hb x5 y5
  have x6 := BX.out.cell (i := 6) rfl
  have y6 := BY.out.cell (i := 6) rfl
  have x7 := BX.out.cell (i := 7) rfl
  have y7 := BY.out.cell (i := 7) rfl
  go_wp2_with fail
  refine (CX.out _ H3.out).mono ?_
  rintro e w4 ⟨rfl, hb⟩
  have H4 := Lib.hid (g_chain H3.out hb)
  replace BX := Lib.hid (BX.out.below hb)
  replace BY := Lib.hid (BY.out.below hb)
  clear hb x6 y6 x7 y7
  go_wp2
  go_ret
  exact ⟨rfl, H4.out⟩
end Go.Proofs.YtlhcobkncceodaaDoor
namespace Go.Proofs.YtlhcobkncceodaaDoor
open Go.RowKit
set_option linter.unusedVariables false

/-! ### marks -/
theorem ap_symm {a b : Option Nat} (h : a = none ∨ b ≠ a) : b = none ∨ a ≠ b := by
  rcases h with h | h
  · cases b with
    | none => exact .inl rfl
    | some x => exact .inr (by rw [h]; simp)
  · exact .inr (fun e => h e.symm)
/-- The blocks that a run's rows lie in. -/
def runBlk (A : Option Addr) (n c : Nat) (B : Option Addr) (m d : Nat) (C : Option Addr) (j k : Nat) (g : Nat) : Prop := (Value.slice A n c).ownBlock = some g ∨ (Value.slice B m d).ownBlock = some g ∨ (Value.slice C j k).ownBlock = some g
/-- What marking a run leaves. -/
def MarkedRun (w : World) (lo kk : Nat) (z : Int) (A : Option Addr) (n c : Nat) (B : Option Addr) (m d : Nat) (C : Option Addr) (j k : Nat) (e : Ending) (w' : World) : Prop :=
  e = .returned (.int .i64 z) ∧ (w'.ownsRow lo 3 1 (.slice A n c) n (vi (ints kk n)) ∧ w'.ownsRow lo 3 1 (.slice B m d) m (vi (ints (kk + n) m)) ∧ w'.ownsRow lo 5 1 (.slice C j k) j (vb (marksK (kk + n + m) j))) ∧ OnlyB (runBlk A n c B m d C j k) w w'
set_option maxHeartbeats 1000000 in
theorem markRun_any (p s it : Int) (dn : Bool) (nn : Int) (A : Option Addr) (n c : Nat) (B : Option Addr) (m d : Nat) (C : Option Addr) (j k lo kk : Nat) (vs ev : List Int) (nx : List Nat) (w : World)
    (hv : w.ownsRow lo 3 1 (.slice A n c) n (vi vs)) (he : w.ownsRow lo 3 1 (.slice B m d) m (vi ev)) (hx : w.ownsRow lo 5 1 (.slice C j k) j (vb nx)) (ha : (Value.slice A n c).ownBlock = none ∨ (Value.slice B m d).ownBlock ≠ (Value.slice A n c).ownBlock)
    (hn : n ≤ 1048576) (hm : m ≤ 1048576) (hj : j ≤ 1048576) (hk : kk ≤ 4194304) :
    Calls Tryd.prog 17 #[.agg #[.int .i64 p, .int .i64 s, .int .i64 it, .bool dn, .slice A n c, .slice B m d, .int .i64 nn, .slice C j k], .int .i64 (kk : Int)] w (MarkedRun w lo kk ((kk + n + m + j : Nat) : Int) A n c B m d C j k) := by
  have hT1 := own_types hv hx (by decide)
  have hT2 := own_types he hx (by decide)
  have B0 := Lib.hid (Blk.new w #[.int .i64 p, .int .i64 s, .int .i64 it, .bool dn, .slice A n c, .slice B m d, .int .i64 nn, .slice C j k] 43)
  have hwA : (Value.slice A n c).ownBlock ≠ some w.heap.size := fun e => by have := (hv.lt _ e).2; omega
  have hwB : (Value.slice B m d).ownBlock ≠ some w.heap.size := fun e => by have := (he.lt _ e).2; omega
  have hwC : (Value.slice C j k).ownBlock ≠ some w.heap.size := fun e => by have := (hx.lt _ e).2; omega
  have O0 : OnlyB (runBlk A n c B m d C j k) w (w.alloc (.cells #[.int .i64 p, .int .i64 s, .int .i64 it, .bool dn, .slice A n c, .slice B m d, .int .i64 nn, .slice C j k] 43)) := (OnlyB.refl _ w).below (below_a1 w _)
  have V0 := own_below hv (below_a1 w (.cells #[.int .i64 p, .int .i64 s, .int .i64 it, .bool dn, .slice A n c, .slice B m d, .int .i64 nn, .slice C j k] 43))
  have E0 := own_below he (below_a1 w (.cells #[.int .i64 p, .int .i64 s, .int .i64 it, .bool dn, .slice A n c, .slice B m d, .int .i64 nn, .slice C j k] 43))
  have X0 := own_below hx (below_a1 w (.cells #[.int .i64 p, .int .i64 s, .int .i64 it, .bool dn, .slice A n c, .slice B m d, .int .i64 nn, .slice C j k] 43))
  have C1 := Lib.hid (markInts_any A n c lo kk vs _ V0 (by omega) (by omega))
  have C2 := Lib.hid (fun W (h : W.ownsRow lo 3 1 (.slice B m d) m (vi ev)) => markInts_any B m d lo (kk + n) ev W h (by omega) (by omega))
  have C3 := Lib.hid (fun W (h : W.ownsRow lo 5 1 (.slice C j k) j (vb nx)) => markSet_any nn C j k lo (kk + n + m) nx W h (by omega) (by omega))
  unfold MarkedI at C1 C2
  unfold MarkedK at C3
  have V0 := Lib.hid V0
  have E0 := Lib.hid E0
  have X0 := Lib.hid X0
  have O0 := Lib.hid O0
  have HT1 := Lib.hid hT1
  have HT2 := Lib.hid hT2
  have HA := Lib.hid ha
  have HWA := Lib.hid hwA
  have HWB := Lib.hid hwB
  have HWC := Lib.hid hwC
  clear hv he hx ha hT1 hT2 hwA hwB hwC
  go_enter Tryd.func17, Tryd.ntmps17
  go_wp2_with fail
  refine C1.out.mono ?_
  rintro e w1 ⟨rfl, ho, hg⟩
  have B1 := Lib.hid (B0.out.grown hg HWA.out)
  have V1 := Lib.hid ho
  have E1 := Lib.hid (E0.out.kept hg (ap_symm HA.out |>.imp id fun h e => h e.symm))
  have X1 := Lib.hid (X0.out.kept hg (ap_symm HT1.out |>.imp id fun h e => h e.symm))
  have O1 := Lib.hid (O0.out.grown hg (fun i hi => .inl hi))
  clear ho hg
  have x5 := B1.out.cell (i := 5) rfl
  go_wp2_with fail
  refine (C2.out _ E1.out).mono ?_
  rintro e w2 ⟨rfl, ho, hg⟩
  have B2 := Lib.hid (B1.out.grown hg HWB.out)
  have E2 := Lib.hid ho
  have V2 := Lib.hid (V1.out.kept hg (HA.out.imp id fun h e => h e.symm))
  have X2 := Lib.hid (X1.out.kept hg (ap_symm HT2.out |>.imp id fun h e => h e.symm))
  have O2 := Lib.hid (O1.out.grown hg (fun i hi => .inr (.inl hi)))
  clear ho hg x5
  have x6 := B2.out.cell (i := 6) rfl
  have x7 := B2.out.cell (i := 7) rfl
  go_wp2_with fail
  refine (C3.out _ X2.out).mono ?_
  rintro e w3 ⟨rfl, ho, hg⟩
  have E3 := Lib.hid (E2.out.kept hg (HT2.out.imp id fun h e => h e.symm))
  have V3 := Lib.hid (V2.out.kept hg (HT1.out.imp id fun h e => h e.symm))
  have X3 := Lib.hid ho
  have O3 := Lib.hid (O2.out.grown hg (fun i hi => .inr (.inr hi)))
  clear ho hg
  go_wp2
  go_ret
  exact ⟨rfl, ⟨V3.out, E3.out, X3.out⟩, O3.out⟩
set_option maxHeartbeats 1000000 in
theorem heldRun_any (p s it : Int) (dn : Bool) (nn : Int) (A : Option Addr) (n c : Nat) (B : Option Addr) (m d : Nat) (C : Option Addr) (j k : Nat) (w : World)
    (hv : SlI w A n (ints 1 n)) (he : SlI w B m (ints (1 + n) m)) (hx : Rd w C j (marksK (1 + n + m) j)) (hn : n ≤ 1048576) (hm : m ≤ 1048576) (hj : j ≤ 1048576) :
    Calls Tryd.prog 18 #[.agg #[.int .i64 p, .int .i64 s, .int .i64 it, .bool dn, .slice A n c, .slice B m d, .int .i64 nn, .slice C j k], .int .i64 1] w (GNum w ((1 + n + m + j : Nat) : Int)) := by
  have C1 := Lib.hid (fun W (h : Below w.heap.size w W) => heldZ_any A n c 1 W (hv.below h) (by omega) (by omega))
  have C2 := Lib.hid (fun W (h : Below w.heap.size w W) => heldZ_any B m d (1 + n) W (he.below h) (by omega) (by omega))
  have C3 := Lib.hid (fun W (h : Below w.heap.size w W) => heldSet_any nn C j k (1 + n + m) W (hx.below h) (by omega) (by omega))
  have B0 := Lib.hid (Blk.new w #[.int .i64 p, .int .i64 s, .int .i64 it, .bool dn, .slice A n c, .slice B m d, .int .i64 nn, .slice C j k] 43)
  have H0 := Lib.hid (below_a1 w (.cells #[.int .i64 p, .int .i64 s, .int .i64 it, .bool dn, .slice A n c, .slice B m d, .int .i64 nn, .slice C j k] 43))
  have h1 : (0 : Int) ≤ ((1 + n : Nat) : Int) := by omega
  have h2 : (0 : Int) ≤ ((1 + n + m : Nat) : Int) := by omega
  have h3 : (0 : Int) ≤ ((1 + n + m + j : Nat) : Int) := by omega
  generalize ((1 + n + m + j : Nat) : Int) = z3 at C3 h3 ⊢
  generalize ((1 + n + m : Nat) : Int) = z2 at C2 C3 h2
  generalize ((1 + n : Nat) : Int) = z1 at C1 C2 h1
  clear hv he hx
  go_enter Tryd.func18, Tryd.ntmps18
  go_wp2_with fail
  refine (C1.out _ H0.out).mono ?_
  rintro e w1 ⟨rfl, hb⟩
  have B1 := Lib.hid (B0.out.below hb)
  have H1 := Lib.hid (g_chain H0.out hb)
  clear hb
  have x5 := B1.out.cell (i := 5) rfl
  go_wp2_with fail
  refine (C2.out _ H1.out).mono ?_
  rintro e w2 ⟨rfl, hb⟩
  have B2 := Lib.hid (B1.out.below hb)
  have H2 := Lib.hid (g_chain H1.out hb)
  clear hb x5
  have x6 := B2.out.cell (i := 6) rfl
  have x7 := B2.out.cell (i := 7) rfl
  go_wp2_with fail
  refine (C3.out _ H2.out).mono ?_
  rintro e w3 ⟨rfl, hb⟩
  have H3 := Lib.hid (g_chain H2.out hb)
  clear hb
  go_wp2
  go_ret
  exact ⟨rfl, H3.out⟩

/-! ### opening -/
section
variable {H : Type} {enc : TypeId × Value → H} {w : World} {base : Nat} {spare : Nat → Bool} {held : Bool}
end
end Go.Proofs.YtlhcobkncceodaaDoor
namespace Go.Proofs.YtlhcobkncceodaaDoor
open Go.RowKit
set_option linter.unusedVariables false

theorem v_div (v : Nat) : ((v : Int)).tdiv 8 = ((v / 8 : Nat) : Int) := by rw [Int.tdiv_eq_ediv_of_nonneg (by omega)]; omega
theorem v_mod (v : Nat) : ((v : Int)).tmod 8 = ((v % 8 : Nat) : Int) := by rw [Int.tmod_eq_emod_of_nonneg (by omega)]; omega
theorem bytesFor (n : Nat) (w : World) (hn : n ≤ 150) :
    Calls Tryd.prog 71 #[.int .i64 (n : Int)] w fun e w' => e = .returned (.int .i64 ((bytesN n : Nat) : Int)) ∧ w = w' := by
  have h1 : ((n : Int) + 8 - 1).tdiv 8 = ((bytesN n : Nat) : Int) := by
    rw [Int.tdiv_eq_ediv_of_nonneg (by omega)]
    unfold bytesN
    omega
  have hq : bytesN n ≤ 20 := by unfold bytesN; omega
  generalize bytesN n = q at h1 hq
  go_enter Tryd.func71, Tryd.ntmps71
  go_wp2
  go_ret
  exact ⟨g_int (by first | rfl | exact h1 | omega), rfl⟩

def MarkedS (w : World) (lo n : Nat) (A : Option Addr) (c : Nat) (ys : List Nat) (e : Ending) (w' : World) : Prop :=
  e = .returned (.tuple #[]) ∧ w'.ownsRow lo 5 1 (.slice A n c) n (vb ys) ∧ w.grownBy w' (Value.slice A n c).ownBlock
theorem vb_set (xs : List Nat) (k y : Nat) : (vb xs).set k (.int .u8 (y : Int)) = vb (xs.set k y) := by simp [vb, List.map_set]
theorem getD_at {xs : List Nat} {k x : Nat} (h : xs[k]? = some x) : xs.getD k 0 = x := by rw [List.getD_eq_getElem?_getD, h]; rfl
set_option maxHeartbeats 4000000 in
theorem mark_anyS (N : Int) (A : Option Addr) (n c lo v : Nat) (xs : List Nat) (w : World) (hw : Wts w) (ho : w.ownsRow lo 5 1 (.slice A n c) n (vb xs)) (hs : ∀ x ∈ xs, x < 256) (hv : v / 8 < n) (hb : v ≤ 1048576) :
    Calls Tryd.prog 72 #[.agg #[.int .i64 N, .slice A n c], .int .i64 (v : Int)] w (MarkedS w lo n A c (addV xs v)) := by
  have hl : xs.length = n := by have := ho.1; rw [vb_length] at this; omega
  obtain ⟨g, cap, hvv, hbase, hlt⟩ := ho.form (by omega)
  obtain ⟨rfl, -, rfl⟩ : A = some ⟨g, 0, none⟩ ∧ n = n ∧ c = cap := by injection hvv with e1 e2 e3; exact ⟨e1, e2, e3⟩
  clear hvv
  obtain ⟨x, hx⟩ : ∃ x, xs[v / 8]? = some x := ⟨_, List.getElem?_eq_getElem (by omega)⟩
  have hx256 : x < 256 := hs x (List.mem_of_getElem? hx)
  have hc0 : w.cell? ⟨g, v / 8, none⟩ = some (.int .u8 (x : Int)) := by rw [ho.cellAt (v / 8) (by omega), vb_get, hx]; rfl
  have hf0 := ho.frozenAt (v / 8)
  have hst := ho.stored (v / 8) (.int .u8 ((onN x (v % 8) : Nat) : Int))
  rw [vb_set] at hst
  have HS := Lib.hid (show (w.setCell ⟨g, v / 8, none⟩ (.int .u8 ((onN x (v % 8) : Nat) : Int))).ownsRow lo 5 1 (.slice (some ⟨g, 0, none⟩) n c) n (vb (addV xs v)) ∧ w.grownBy (w.setCell ⟨g, v / 8, none⟩ (.int .u8 ((onN x (v % 8) : Nat) : Int))) (some g) by
    unfold addV
    rw [getD_at hx]
    exact hst)
  have hc1 := hw.at_ (v % 8) (by omega)
  have hlw := hw.lt
  have hdv := v_div v
  have hmv := v_mod v
  have hand := or8 (k := v % 8) hx256 (by omega)
  have hq8 : v % 8 < 8 := by omega
  generalize onN x (v % 8) = y at hand HS
  generalize 2 ^ (v % 8) = q at hand hc1
  generalize v % 8 = r at hmv hc1 hq8 hand
  have hdb : v / 8 ≤ 1048576 := by omega
  generalize v / 8 = d at hdv hc0 hf0 hv hdb HS
  have hwd : IntKind.i64.wrap (d : Int) = (d : Int) := IntWalk.i64_in _ (by omega)
  have hwr : IntKind.i64.wrap (r : Int) = (r : Int) := IntWalk.i64_in _ (by omega)
  clear hst hx hs hw ho hl
  have e0 := (World.cell?_alloc_lt w (.cells #[.int .i64 N, .slice (some ⟨g, 0, none⟩) n c] 41) ⟨g, d, none⟩ hlt).trans hc0
  have e1 := (World.cell?_alloc_lt w (.cells #[.int .i64 N, .slice (some ⟨g, 0, none⟩) n c] 41) ⟨_, r, none⟩ hlw).trans hc1
  go_enter Tryd.func72, Tryd.ntmps72
  go_wp2
  go_region
  go_end0
  have HB : Below (w.setCell ⟨g, d, none⟩ (.int .u8 (y : Int))).heap.size (w.setCell ⟨g, d, none⟩ (.int .u8 (y : Int))) (((w.setCell ⟨g, d, none⟩ (.int .u8 (y : Int))).alloc (.cells #[.int .i64 N, .slice (some ⟨g, 0, none⟩) n c] 41)).drew) := (below_a1 _ _).drew
  exact ⟨rfl, own_below HS.out.1 HB, grownBy_trans HS.out.2 (grownBy_of_below HB _)⟩
end Go.Proofs.YtlhcobkncceodaaDoor
