/- The contracts of the law's two helpers that write marks into a slice of bytes and look for them: 'markByteS' writes 1, 2, 3 .. (modulo 256) into a row of the call's own, and nothing else; 'heldByteS' finds them. Condition: at most 2^21 bytes. // Shard edges: the contracts of the laws' helpers that leave marks and that look for them. Condition: at most 2^21 edges. // The contracts of the laws' helpers that leave marks in one shard and find them; those on bytes and numbers, said of memory alone. Condition: at most 2^21 edges, bytes or numbers. -/
import Derived.Test.YtmbabbapcjphgaaBase
import Derived.Test.YtmbabbapcjphgaaKEB
import Derived.Test.YtmbabbapcjphgaaCopy
import Derived.Test.YtmbabbapcjphgaaIntEq
namespace Go.Proofs.Ytmbabbapcjphgaa
open Go.RowKit

/-- The marks. -/
def marks (n : Nat) : List Nat := (List.range n).map fun i => (i + 1) % 256
theorem marks_length (n : Nat) : (marks n).length = n := by simp [marks]
theorem marks_small (n : Nat) : ∀ x ∈ marks n, x < 256 := by
  intro x hx
  simp only [marks, List.mem_map] at hx
  obtain ⟨i, _, rfl⟩ := hx
  omega
theorem marks_get (n k : Nat) (h : k < n) : (marks n)[k]? = some ((k + 1) % 256) := by simp [marks, h]
def markedTo (xs : List Nat) (k : Nat) : List Nat := marks k ++ xs.drop k
theorem markedTo_zero (xs : List Nat) : markedTo xs 0 = xs := by simp [markedTo, marks]
theorem markedTo_full (xs : List Nat) : markedTo xs xs.length = marks xs.length := by simp [markedTo]
theorem markedTo_step (xs : List Nat) (k : Nat) (h : k < xs.length) : (vb (markedTo xs k)).set k (.int .u8 (((k + 1) % 256 : Nat) : Int)) = vb (markedTo xs (k + 1)) := by
  have : (markedTo xs k).set k ((k + 1) % 256) = markedTo xs (k + 1) := by
    unfold markedTo
    rw [List.set_append_right _ _ (by simp [marks_length]), marks_length, Nat.sub_self, List.drop_eq_getElem_cons h, List.set_cons_zero]
    rw [marks, marks, List.range_succ, List.map_append, List.append_assoc]
    rfl
  rw [← this]
  simp [vb, List.map_set]

def Marked (w : World) (base n : Nat) (A : Option Addr) (c : Nat) (e : Ending) (w' : World) : Prop :=
  e = .returned (.int .i64 (n + 1 : Int)) ∧ w'.ownsRow base 5 1 (.slice A n c) n (vb (marks n)) ∧ w.grownBy w' (Value.slice A n c).ownBlock

set_option maxHeartbeats 400000 in
theorem mark_any (A : Option Addr) (n c base : Nat) (xs : List Nat) (w : World) (ho : w.ownsRow base 5 1 (.slice A n c) n (vb xs)) (hn : n ≤ 2097152) :
    Calls Try.prog 34 #[.slice A n c, .int .i64 1] w (Marked w base n A c) := by
  have hl : xs.length = n := by have := ho.1; rw [vb_length] at this; omega
  rcases Nat.eq_zero_or_pos n with h0 | h0
  · subst h0
    obtain rfl : xs = [] := List.eq_nil_of_length_eq_zero hl
    have HO := Lib.hid ho
    clear ho hl
    go_enter Try.func34, Try.ntmps34
    go_wp2
    refine wp_loop_rounds 1 ?_
    rw [rounds_succ]
    go_wp2
    go_ret
    exact ⟨rfl, HO.out, World.grownBy.refl _ _⟩
  · obtain ⟨g, cap, hv, hbase, hlt⟩ := ho.form h0
    obtain ⟨rfl, -, rfl⟩ : A = some ⟨g, 0, none⟩ ∧ n = n ∧ c = cap := by injection hv with e1 e2 e3; exact ⟨e1, e2, e3⟩
    clear hv
    have HL := Lib.hid hl
    have ho0 : w.ownsRow base 5 1 (.slice (some ⟨g, 0, none⟩) n c) n (vb (markedTo xs 0)) := by rw [markedTo_zero]; exact ho
    clear hl ho
    go_enter Try.func34, Try.ntmps34
    go_wp2
    go_loopw [1, 5] (fun t i wr => ∃ k : Nat, k ≤ n ∧ i = .int .i64 k ∧ t = .int .i64 (k + 1 : Int) ∧ wr.ownsRow base 5 1 (.slice (some ⟨g, 0, none⟩) n c) n (vb (markedTo xs k)) ∧ w.grownBy wr (some g)) (fun _ i _ => n - (intOf i).toNat)
    case atStart => exact ⟨0, Nat.zero_le _, rfl, rfl, ho0, World.grownBy.refl _ _⟩
    case round =>
      obtain ⟨k, hk, rfl, rfl, hown, hgr⟩ := hrel
      by_cases hlt2 : k < n
      · have hl2 : k < (vb (markedTo xs k)).length := by rw [hown.1]; omega
        have hcell2 : wr.cell? ⟨g, k, none⟩ = some (vb (markedTo xs k))[k] := by rw [hown.cellAt k (by omega), List.getElem?_eq_getElem hl2]
        have hfr := hown.frozenAt k
        have hst := hown.stored k (.int .u8 (((k + 1) % 256 : Nat) : Int))
        rw [markedTo_step xs k (by rw [HL.out]; exact hlt2)] at hst
        have hst1 := Lib.hid hst.1
        have hg2 := grownBy_trans hgr hst.2
        generalize (vb (markedTo xs k))[k] = old at hcell2
        clear hst hown hl2
        go_wp2
        go_roundw
        case rel => exact ⟨k + 1, by omega, by go_num, by go_num, hst1.out, hg2⟩
        case measure => simp [intOf]; omega
      · obtain rfl : k = n := by omega
        go_wp2
        go_ret
        have e := HL.out
        subst e
        rw [markedTo_full] at hown
        exact ⟨rfl, hown, hgr⟩

set_option maxHeartbeats 400000 in
theorem held_any (A : Option Addr) (n c : Nat) (w : World) (hr : Rd w A n (marks n)) (hn : n ≤ 2097152) :
    Calls Try.prog 35 #[.slice A n c, .int .i64 1] w fun e w' => e = .returned (.int .i64 (n + 1 : Int)) ∧ w = w' := by
  go_enter Try.func35, Try.ntmps35
  go_wp2
  go_loop [1, 5] (fun t i => ∃ k : Nat, k ≤ n ∧ i = .int .i64 k ∧ t = .int .i64 (k + 1 : Int)) (fun _ i => n - (intOf i).toNat)
  case atStart => exact ⟨0, Nat.zero_le _, rfl, rfl⟩
  case round =>
    obtain ⟨k, hk, rfl, rfl⟩ := hrel
    by_cases hlt : k < n
    · obtain ⟨b, off, x, rfl, hbw, hx, hxs, hc⟩ := hr.at_ hlt
      obtain rfl : (k + 1) % 256 = x := by have := (marks_get n k hlt).symm.trans hxs.out; injection this
      go_wp2
      go_round
      case rel => exact ⟨k + 1, by omega, by go_num, by go_num⟩
      case measure => simp [intOf]; omega
    · obtain rfl : k = n := by omega
      go_wp2
      go_ret
      exact ⟨rfl, rfl⟩
end Go.Proofs.Ytmbabbapcjphgaa
namespace Go.Proofs.Ytmbabbapcjphgaa
open Go.RowKit

def Marked5 (w : World) (lo kk : Nat) (A : Option Addr) (n c k : Nat) (es : List KE) (e : Ending) (w' : World) : Prop :=
  e = .returned (.int .i64 (kk : Int)) ∧ w'.ownsRow lo 77 5 (.slice A n c) n ((mark5 k es).flatMap KE.cells) ∧ w.grownBy w' (Value.slice A n c).ownBlock

set_option maxRecDepth 10000 in
set_option maxHeartbeats 2000000 in
theorem markKs_any (A : Option Addr) (n c lo k : Nat) (es : List KE) (w : World) (ho : w.ownsRow lo 77 5 (.slice A n c) n (es.flatMap KE.cells)) (hl : es.length = n) (hn : n ≤ 2097152) (hk : k ≤ 16777216) :
    Calls Try.prog 68 #[.slice A n c, .int .i64 (k : Int)] w (Marked5 w lo (k + 5 * n) A n c k es) := by
  have HL := Lib.hid hl
  rcases Nat.eq_zero_or_pos n with rfl | hpos
  · obtain rfl : es = [] := List.eq_nil_of_length_eq_zero hl
    have HO := Lib.hid ho
    clear ho hl
    go_enter Try.func68, Try.ntmps68
    go_wp2
    go_loopw [1, 5] (fun q i wr => i = .int .i64 0 ∧ q = .int .i64 (k : Int) ∧ wr = w) (fun _ _ _ => 0)
    case atStart => exact ⟨rfl, rfl, rfl⟩
    case round =>
      obtain ⟨rfl, rfl, rfl⟩ := hrel
      go_wp2
      go_ret
      exact ⟨rfl, HO.out, World.grownBy.refl _ _⟩
  · obtain ⟨g, rfl⟩ := g_own_at ho hpos
    have HO : Hid (w.ownsRow lo 77 5 (.slice (some ⟨g, 0, none⟩) n c) n ((mark5 k (es.take 0) ++ es.drop 0).flatMap KE.cells)) := Lib.hid ho
    clear ho hl
    go_enter Try.func68, Try.ntmps68
    go_wp2
    go_loopw [1, 5] (fun q i wr => ∃ j : Nat, j ≤ n ∧ i = .int .i64 j ∧ q = .int .i64 ((k + 5 * j : Nat) : Int) ∧ Hid (wr.ownsRow lo 77 5 (.slice (some ⟨g, 0, none⟩) n c) n ((mark5 k (es.take j) ++ es.drop j).flatMap KE.cells)) ∧ Hid (w.grownBy wr (some g))) (fun _ i _ => n - (intOf i).toNat)
    case atStart => exact ⟨0, Nat.zero_le _, rfl, rfl, HO, Lib.hid (World.grownBy.refl _ _)⟩
    case round =>
      clear HO
      obtain ⟨j, hj, rfl, rfl, hown, hgr⟩ := hrel
      by_cases hlt : j < n
      · obtain ⟨e, he⟩ : ∃ e, es[j]? = some e := ⟨es[j]'(by rw [HL.out]; exact hlt), List.getElem?_eq_getElem _⟩
        have hmk : (mark5 k (es.take j)).length = j := by rw [mark5_len, List.length_take, HL.out]; omega
        have hown2 := hown.out
        rw [g_drop es j e he] at hown2
        have hq := fun i (hi : i < 5) => (hown2.cellAt (j * 5 + i) (by omega)).trans (flat_get KE.cells 5 KE.cells_len _ j i e (g_get _ _ _ _ hmk) hi)
        have hc0 : wr.cell? ⟨g, j * 5, none⟩ = some (.int .i64 e.f) := hq 0 (by omega)
        have hc1 : wr.cell? ⟨g, j * 5 + 1, none⟩ = some (.int .i64 e.t) := hq 1 (by omega)
        have hc2 : wr.cell? ⟨g, j * 5 + 2, none⟩ = some (.int .i64 e.w) := hq 2 (by omega)
        have hc3 : wr.cell? ⟨g, j * 5 + 3, none⟩ = some (.int .i64 e.i) := hq 3 (by omega)
        have hc4 : wr.cell? ⟨g, j * 5 + 4, none⟩ = some (.int .i64 e.v) := hq 4 (by omega)
        have hf0 := hown2.frozenAt (j * 5)
        have hf1 := hown2.frozenAt (j * 5 + 1)
        have hf2 := hown2.frozenAt (j * 5 + 2)
        have hf3 := hown2.frozenAt (j * 5 + 3)
        have hf4 := hown2.frozenAt (j * 5 + 4)
        have HS := Lib.hid (k_lay (e := ⟨((k + 5 * j : Nat) : Int), ((k + 5 * j : Nat) : Int) + 1, ((k + 5 * j : Nat) : Int) + 2, ((k + 5 * j : Nat) : Int) + 3, ((k + 5 * j : Nat) : Int) + 4⟩) hown2 hmk)
        have hb1 : ((k + 5 * j : Nat) : Int) + 1 + 1 = ((k + 5 * j : Nat) : Int) + 2 := by omega
        have hb2 : ((k + 5 * j : Nat) : Int) + 2 + 1 = ((k + 5 * j : Nat) : Int) + 3 := by omega
        have hb3 : ((k + 5 * j : Nat) : Int) + 3 + 1 = ((k + 5 * j : Nat) : Int) + 4 := by omega
        have HE := Lib.hid he
        clear hown hown2 hq he hmk
        have hq0 : k + 5 * j ≤ 40000000 := by omega
        obtain ⟨q, hq⟩ : ∃ q, q = k + 5 * j := ⟨_, rfl⟩
        rw [← hq] at HS hb1 hb2 hb3 hq0
        have HQ := Lib.hid hq
        simp only [← hq]
        clear hq
        go_wp2
        go_roundw
        case rel =>
          refine ⟨j + 1, by omega, by go_num, ?_, Lib.hid ?_, Lib.hid (hgr.out.trans ?_)⟩
          · have := HQ.out
            exact congrArg (Value.int .i64) (by first | omega | (simp only [IntKind.wrap_i64]; omega))
          · have h := HS.out.1
            rw [g_take es j e HE.out, mark5_snoc, List.length_take, HL.out, show min j n = j by omega, ← HQ.out, List.append_assoc]
            exact h
          · exact HS.out.2
        case measure => simp [intOf]; omega
      · obtain rfl : j = n := by omega
        go_wp2
        go_ret
        refine ⟨rfl, ?_, hgr.out⟩
        have h := hown.out
        rw [List.take_of_length_le (by rw [HL.out]; exact Nat.le_refl _), List.drop_eq_nil_of_le (by rw [HL.out]; exact Nat.le_refl _), List.append_nil] at h
        exact h

set_option maxRecDepth 10000 in
set_option maxHeartbeats 1000000 in
theorem heldKs_any (A : Option Addr) (n c k : Nat) (es : List KE) (w : World) (hr : SlK w A n (mark5 k es)) (hn : n ≤ 2097152) (hk : k ≤ 16777216) :
    Calls Try.prog 69 #[.slice A n c, .int .i64 (k : Int)] w (GNum w ((k + 5 * n : Nat) : Int)) := by
  have HR := Lib.hid hr
  have HL : Hid (es.length = n) := Lib.hid (by rw [← hr.len, mark5_len])
  have HG := Lib.hid (fun j (h : j < es.length) => mark5_get es k j h)
  clear hr
  go_enter Try.func69, Try.ntmps69
  go_wp2
  go_loopw [1, 5] (fun q i wr => ∃ j : Nat, j ≤ n ∧ i = .int .i64 j ∧ q = .int .i64 ((k + 5 * j : Nat) : Int) ∧ wr = w) (fun _ i _ => n - (intOf i).toNat)
  case atStart => exact ⟨0, Nat.zero_le _, rfl, rfl, rfl⟩
  case round =>
    obtain ⟨j, hj, rfl, rfl, rfl⟩ := hrel
    by_cases hlt : j < n
    · obtain ⟨b, off, e, rfl, hbw, he, c0, c1, c2, c3, c4⟩ := HR.out.at_ hlt
      have hee : e = ⟨((k + 5 * j : Nat) : Int), ((k + 5 * j : Nat) : Int) + 1, ((k + 5 * j : Nat) : Int) + 2, ((k + 5 * j : Nat) : Int) + 3, ((k + 5 * j : Nat) : Int) + 4⟩ := by
        have h1 := he.out
        rw [HG.out j (by rw [HL.out]; exact hlt)] at h1
        injection h1 with h1
        exact h1.symm
      subst hee
      clear he
      have hq0 : k + 5 * j ≤ 40000000 := by omega
      obtain ⟨q, hq⟩ : ∃ q, q = k + 5 * j := ⟨_, rfl⟩
      simp only [← hq] at c0 c1 c2 c3 c4 hq0 ⊢
      have hb1 : (q : Int) + 1 + 1 = (q : Int) + 2 := by omega
      have hb2 : (q : Int) + 2 + 1 = (q : Int) + 3 := by omega
      have hb3 : (q : Int) + 3 + 1 = (q : Int) + 4 := by omega
      have HQ := Lib.hid hq
      clear hq
      go_wp2
      go_roundw
      case rel =>
        refine ⟨j + 1, by omega, by go_num, ?_, by first | rfl | trivial⟩
        have := HQ.out
        exact congrArg (Value.int .i64) (by first | omega | (simp only [IntKind.wrap_i64]; omega))
      case measure => simp [intOf]; omega
    · obtain rfl : j = n := by omega
      go_wp2
      go_ret
      exact ⟨by first | rfl | trivial, Below.refl _ _⟩
end Go.Proofs.Ytmbabbapcjphgaa
namespace Go.Proofs.Ytmbabbapcjphgaa
open Go.RowKit

theorem markShard_any (lo hi : Int) (A : Option Addr) (n c l k : Nat) (es : List KE) (w : World) (ho : w.ownsRow l 77 5 (.slice A n c) n (es.flatMap KE.cells)) (hl : es.length = n) (hn : n ≤ 2097152) (hk : k ≤ 16777216) :
    Calls Try.prog 33 #[.agg #[.int .i64 lo, .int .i64 hi, .slice A n c], .int .i64 (k : Int)] w (Marked5 w l (k + 5 * n) A n c k es) := by
  have C := Lib.hid (fun W (h : Below w.heap.size w W) => markKs_any A n c l k es W (own_below ho h) hl hn hk)
  clear ho
  go_enter Try.func33, Try.ntmps33
  go_wp2_with fail
  refine (C.out _ (below_a1 _ _)).mono ?_
  rintro e w1 ⟨rfl, ho1, hg1⟩
  have HG := Lib.hid (grownBy_trans (grownBy_of_below (below_a1 w (.cells #[.int .i64 lo, .int .i64 hi, .slice A n c] 35)) _) hg1)
  have HO := Lib.hid ho1
  clear ho1 hg1
  go_wp2
  go_ret
  exact ⟨rfl, HO.out, HG.out⟩
theorem heldShard_any (lo hi : Int) (A : Option Addr) (n c k : Nat) (es : List KE) (w : World) (hr : SlK w A n (mark5 k es)) (hn : n ≤ 2097152) (hk : k ≤ 16777216) :
    Calls Try.prog 39 #[.agg #[.int .i64 lo, .int .i64 hi, .slice A n c], .int .i64 (k : Int)] w (GNum w ((k + 5 * n : Nat) : Int)) := by
  have CE := Lib.hid (fun W (h : Below w.heap.size w W) => heldKs_any A n c k es W (hr.below h) hn hk)
  clear hr
  go_enter Try.func39, Try.ntmps39
  go_wp2_with fail
  refine (CE.out _ (below_a1 _ _)).mono ?_
  rintro e w1 ⟨rfl, hb1⟩
  go_wp2
  go_ret
  exact ⟨rfl, g_chain (below_a1 _ _) hb1⟩
theorem eqY_any (A B : Option Addr) (n c d : Nat) (xs : List Nat) (w : World) (ha : Rd w A n xs) (hb : Rd w B n xs) (hn : n ≤ 2097152) :
    Calls Try.prog 32 #[.slice A n c, .slice B n d] w (GTell w true) := by
  refine (same_any A B n c d xs w ha hb hn).mono ?_
  rintro e w' ⟨rfl, m, rfl⟩
  exact ⟨rfl, below_drewN (Below.refl _ _) m⟩
theorem heldY_any (A : Option Addr) (n c : Nat) (w : World) (hr : Rd w A n (marks n)) (hn : n ≤ 2097152) :
    Calls Try.prog 35 #[.slice A n c, .int .i64 1] w (GNum w (n + 1 : Int)) := by
  refine (held_any A n c w hr hn).mono ?_
  rintro e w' ⟨rfl, rfl⟩
  exact ⟨rfl, Below.refl _ _⟩
theorem heldN_any (A : Option Addr) (n c k : Nat) (w : World) (hr : SlI w A n (ints k n)) (hn : n ≤ 2097152) (hk : k ≤ 8388608) :
    Calls Try.prog 44 #[.slice A n c, .int .i64 (k : Int)] w (GNum w ((k + n : Nat) : Int)) := by
  refine (heldInts_any A n c k w hr hn hk).mono ?_
  rintro e w' ⟨rfl, rfl⟩
  exact ⟨rfl, Below.refl _ _⟩
/-- A row of the call's own stays where another is written. -/
theorem own_far {w w' : World} {base e size n c : Nat} {A : Option Addr} {xs : List Value} {row : Option Nat} (h : w.ownsRow base e size (.slice A n c) n xs) (hg : w.grownBy w' row) {l1 h1 l2 h2 : Nat} (ha : ∀ k, (Value.slice A n c).ownBlock = some k → l1 ≤ k ∧ k < h1) (hb : ∀ k, row = some k → l2 ≤ k ∧ k < h2) (hd : h1 ≤ l2 ∨ h2 ≤ l1) : w'.ownsRow base e size (.slice A n c) n xs :=
  h.kept hg (by
    cases hv : (Value.slice A n c).ownBlock with
    | none => exact .inl rfl
    | some k => exact .inr (fun e => by have := ha k hv; have := hb k e.symm; omega))
theorem HBox.far {w w' : World} {b n c : Nat} {lo hi : Int} {A : Option Addr} (h : HBox w b lo hi A n c) {row : Option Nat} (hg : w.grownBy w' row) {l2 h2 : Nat} (hb : ∀ k, row = some k → l2 ≤ k ∧ k < h2) (hd : b < l2 ∨ h2 ≤ b) : HBox w' b lo hi A n c :=
  h.keep hg.size (hg.block _ h.lt (fun e => by have := hb b e.symm; omega))
end Go.Proofs.Ytmbabbapcjphgaa
