/- Edges, graphs and numbers: the contracts of the laws' helpers that compare and that leave marks. Condition: at most 2^21 of each. -/
import Derived.Test.YtpgnappddddlpaaGrB
import Derived.Test.YtpgnappddddlpaaGrMk
namespace Go.Proofs.Ytpgnappddddlpaa
open Go.RowKit

theorem eqEdge_any (e : GE) (w : World) :
    Calls Try.prog 127 #[.agg #[.int .i64 e.f, .int .i64 e.t, .int .i64 e.w], .agg #[.int .i64 e.f, .int .i64 e.t, .int .i64 e.w]] w (GTell w true) := by
  go_enter Try.func127, Try.ntmps127
  go_wp2
  go_ret
  exact ⟨rfl, below_a2 _ _ _⟩

set_option maxRecDepth 10000 in
set_option maxHeartbeats 1000000 in
theorem eqEdges_any (A B : Option Addr) (n c d : Nat) (es : List GE) (w : World) (ha : SlG w A n es) (hb : SlG w B n es) (hn : n ≤ 2097152) :
    Calls Try.prog 77 #[.slice A n c, .slice B n d] w (GTell w true) := by
  have HA := Lib.hid ha
  have HB := Lib.hid hb
  have CE := Lib.hid (fun e W => eqEdge_any e W)
  clear ha hb
  go_enter Try.func77, Try.ntmps77
  go_wp2
  go_loopw [5] (fun i wr => ∃ k : Nat, k ≤ n ∧ i = .int .i64 k ∧ Hid (Below w.heap.size w wr)) (fun i _ => n - (intOf i).toNat)
  case atStart => exact ⟨0, Nat.zero_le _, rfl, Lib.hid (Below.refl _ _)⟩
  case round =>
    obtain ⟨k, hk, rfl, hbel⟩ := hrel
    by_cases hlt : k < n
    · obtain ⟨b, off, e, rfl, hbw, he, c0, c1, c2⟩ := HA.out.at_ hlt
      obtain ⟨b', off', e', rfl, hbw', he', c0', c1', c2'⟩ := HB.out.at_ hlt
      have hee : e' = e := by have h1 := he.out; rw [he'.out] at h1; injection h1
      subst hee
      have c0 := (hbel.out.cell (p := ⟨b, off + k * 3, none⟩) hbw).trans c0
      have c1 := (hbel.out.cell (p := ⟨b, off + k * 3 + 1, none⟩) hbw).trans c1
      have c2 := (hbel.out.cell (p := ⟨b, off + k * 3 + 2, none⟩) hbw).trans c2
      have c0' := (hbel.out.cell (p := ⟨b', off' + k * 3, none⟩) hbw').trans c0'
      have c1' := (hbel.out.cell (p := ⟨b', off' + k * 3 + 1, none⟩) hbw').trans c1'
      have c2' := (hbel.out.cell (p := ⟨b', off' + k * 3 + 2, none⟩) hbw').trans c2'
      clear he he'
      go_wp2
      go_region_with (go_at_call 127; ((with_reducible refine (CE.out e' _).mono ?_)); rintro e1 w1 ⟨rfl, hb1⟩)
      all_goals
        go_wp2
        go_roundw
        case rel => exact ⟨k + 1, by omega, by go_num, Lib.hid (by first | exact g_chain hbel.out hb1 | exact g_chain hbel.out.drew hb1 | exact (g_chain hbel.out.drew hb1).drew)⟩
        case measure => simp [intOf]; omega
    · go_wp2
      go_ret
      exact ⟨rfl, hbel.out⟩
theorem eqGraph_any (N : Int) (A B : Option Addr) (n c d : Nat) (es : List GE) (w : World) (ha : SlG w A n es) (hb : SlG w B n es) (hn : n ≤ 2097152) :
    Calls Try.prog 30 #[.agg #[.int .i64 N, .slice A n c], .agg #[.int .i64 N, .slice B n d]] w (GTell w true) := by
  have CE := Lib.hid (fun W (h : Below w.heap.size w W) => eqEdges_any A B n c d es W (ha.below h) (hb.below h) hn)
  clear ha hb
  go_enter Try.func30, Try.ntmps30
  go_wp2_with fail
  refine (CE.out _ (below_a2 _ _ _)).mono ?_
  rintro e w1 ⟨rfl, hb1⟩
  go_wp2
  go_ret
  exact ⟨rfl, g_chain (below_a2 _ _ _) hb1⟩

def MarkedG (w : World) (lo k : Nat) (A : Option Addr) (n c : Nat) (es : List GE) (e : Ending) (w' : World) : Prop :=
  e = .returned (.int .i64 ((k + 3 * n : Nat) : Int)) ∧ w'.ownsRow lo 145 3 (.slice A n c) n ((markG k es).flatMap GE.cells) ∧ w.grownBy w' (Value.slice A n c).ownBlock

set_option maxRecDepth 10000 in
set_option maxHeartbeats 1000000 in
theorem markEdges_any (A : Option Addr) (n c lo k : Nat) (es : List GE) (w : World) (ho : w.ownsRow lo 145 3 (.slice A n c) n (es.flatMap GE.cells)) (hl : es.length = n) (hn : n ≤ 2097152) (hk : k ≤ 8388608) :
    Calls Try.prog 78 #[.slice A n c, .int .i64 (k : Int)] w (MarkedG w lo k A n c es) := by
  have HL := Lib.hid hl
  rcases Nat.eq_zero_or_pos n with rfl | hpos
  · obtain rfl : es = [] := List.eq_nil_of_length_eq_zero hl
    have HO := Lib.hid ho
    clear ho hl
    go_enter Try.func78, Try.ntmps78
    go_wp2
    go_loopw [1, 5] (fun q i wr => i = .int .i64 0 ∧ q = .int .i64 (k : Int) ∧ wr = w) (fun _ _ _ => 0)
    case atStart => exact ⟨rfl, rfl, rfl⟩
    case round =>
      obtain ⟨rfl, rfl, rfl⟩ := hrel
      go_wp2
      go_ret
      exact ⟨rfl, HO.out, World.grownBy.refl _ _⟩
  · obtain ⟨g, rfl⟩ := g_own_at ho hpos
    have HO : Hid (w.ownsRow lo 145 3 (.slice (some ⟨g, 0, none⟩) n c) n ((markG k (es.take 0) ++ es.drop 0).flatMap GE.cells)) := Lib.hid ho
    clear ho hl
    go_enter Try.func78, Try.ntmps78
    go_wp2
    go_loopw [1, 5] (fun q i wr => ∃ j : Nat, j ≤ n ∧ i = .int .i64 j ∧ q = .int .i64 ((k + 3 * j : Nat) : Int) ∧ Hid (wr.ownsRow lo 145 3 (.slice (some ⟨g, 0, none⟩) n c) n ((markG k (es.take j) ++ es.drop j).flatMap GE.cells)) ∧ Hid (w.grownBy wr (some g))) (fun _ i _ => n - (intOf i).toNat)
    case atStart => exact ⟨0, Nat.zero_le _, rfl, rfl, HO, Lib.hid (World.grownBy.refl _ _)⟩
    case round =>
      clear HO
      obtain ⟨j, hj, rfl, rfl, hown, hgr⟩ := hrel
      by_cases hlt : j < n
      · obtain ⟨e, he⟩ : ∃ e, es[j]? = some e := ⟨es[j]'(by rw [HL.out]; exact hlt), List.getElem?_eq_getElem _⟩
        have hmk : (markG k (es.take j)).length = j := by rw [markG_len, List.length_take, HL.out]; omega
        have hown2 := hown.out
        rw [g_drop es j e he] at hown2
        have hq := fun i (hi : i < 3) => (hown2.cellAt (j * 3 + i) (by omega)).trans (flat_get GE.cells 3 GE.cells_len _ j i e (g_get _ _ _ _ hmk) hi)
        have hc0 : wr.cell? ⟨g, j * 3, none⟩ = some (.int .i64 e.f) := hq 0 (by omega)
        have hc1 : wr.cell? ⟨g, j * 3 + 1, none⟩ = some (.int .i64 e.t) := hq 1 (by omega)
        have hc2 : wr.cell? ⟨g, j * 3 + 2, none⟩ = some (.int .i64 e.w) := hq 2 (by omega)
        have hf0 := hown2.frozenAt (j * 3)
        have hf1 := hown2.frozenAt (j * 3 + 1)
        have hf2 := hown2.frozenAt (j * 3 + 2)
        have HS := Lib.hid (g_lay (e := ⟨((k + 3 * j : Nat) : Int), ((k + 3 * j : Nat) : Int) + 1, ((k + 3 * j : Nat) : Int) + 2⟩) hown2 hmk)
        have hb1 : ((k + 3 * j : Nat) : Int) + 1 + 1 = ((k + 3 * j : Nat) : Int) + 2 := by omega
        have HE := Lib.hid he
        clear hown hown2 hq he hmk
        have hq0 : k + 3 * j ≤ 20000000 := by omega
        obtain ⟨q, hq⟩ : ∃ q, q = k + 3 * j := ⟨_, rfl⟩
        rw [← hq] at HS hb1 hq0
        have HQ := Lib.hid hq
        simp only [← hq]
        clear hq
        go_wp2
        go_roundw
        case rel =>
          refine ⟨j + 1, by omega, by go_num, ?_, Lib.hid ?_, Lib.hid (hgr.out.trans ?_)⟩
          · have := HQ.out
            exact congrArg (Value.int .i64) (by first | omega | (simp only [IntKind.wrap_i64]; omega))
          · have h := HS.out.1
            rw [g_take es j e HE.out, markG_snoc, List.length_take, HL.out, show min j n = j by omega, ← HQ.out, List.append_assoc]
            exact h
          · exact HS.out.2
        case measure => simp [intOf]; omega
      · obtain rfl : j = n := by omega
        go_wp2
        go_ret
        refine ⟨rfl, ?_, hgr.out⟩
        have h := hown.out
        rw [List.take_of_length_le (by rw [HL.out]; exact Nat.le_refl _), List.drop_eq_nil_of_le (by rw [HL.out]; exact Nat.le_refl _), List.append_nil] at h
        exact h
theorem markGraph_any (N : Int) (A : Option Addr) (n c lo k : Nat) (es : List GE) (w : World) (ho : w.ownsRow lo 145 3 (.slice A n c) n (es.flatMap GE.cells)) (hl : es.length = n) (hn : n ≤ 2097152) (hk : k ≤ 8388608) :
    Calls Try.prog 31 #[.agg #[.int .i64 N, .slice A n c], .int .i64 (k : Int)] w fun e w' => e = .returned (.int .i64 ((k + 3 * n : Nat) : Int)) ∧ w.grownBy w' (Value.slice A n c).ownBlock := by
  have C := Lib.hid (fun W (h : Below w.heap.size w W) => markEdges_any A n c lo k es W (own_below ho h) hl hn hk)
  clear ho
  go_enter Try.func31, Try.ntmps31
  go_wp2_with fail
  refine (C.out _ (below_a1 _ _)).mono ?_
  rintro e w1 ⟨rfl, ho1, hg1⟩
  have HG := Lib.hid (grownBy_trans (grownBy_of_below (below_a1 w (.cells #[.int .i64 N, .slice A n c] 58)) _) hg1)
  clear ho1 hg1
  go_wp2
  go_ret
  exact ⟨rfl, HG.out⟩
end Go.Proofs.Ytpgnappddddlpaa
