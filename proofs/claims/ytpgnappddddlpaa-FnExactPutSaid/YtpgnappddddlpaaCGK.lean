/- Copies: the library's Clone at numbers, shards and edges; rows of shards that grow; the model's copy of a farm. Condition: at most 2^20 of each. // Farms as data: one with other values; locations, and writing back (plain lemmas; no condition). // Locations in memory: a slice of records of seven numbers, read or the call's own; marks in it; subs (plain lemmas over the model; no condition). -/
import Derived.Test.YtpgnappddddlpaaCGG
import Derived.Test.YtpgnappddddlpaaCGJ
import Derived.Test.YtpgnappddddlpaaCGH
import Derived.Test.YtpgnappddddlpaaCGC
import Derived.Test.YtpgnappddddlpaaCGD
namespace Go.Proofs.Ytpgnappddddlpaa
open Go.RowKit
set_option linter.unusedVariables false

def RowR (w : World) (t size n : Nat) (cs : List Value) (e : Ending) (w' : World) : Prop :=
  ∃ A c, e = .returned (.slice A n c) ∧ w'.ownsRow w.heap.size t size (.slice A n c) n cs ∧ Below w.heap.size w w'
theorem built_t (w : World) (t size : Nat) : (w.alloc (.cells #[] t)).ownsRow w.heap.size t size (.slice (some ⟨w.heap.size, 0, none⟩) 0 0) 0 [] :=
  World.ownsRow_lit w #[] 0 (Nat.le_refl _) (by unfold maxLen; omega) (by simp)
set_option maxRecDepth 10000 in
theorem cloneI (A : Option Addr) (n c : Nat) (xs : List Int) (w : World) (hr : SlI w A n xs) (hn : n ≤ 1048576) :
    Calls Try.prog 57 #[.slice A n c] w (RowR w 3 1 n (vi xs)) := by
  obtain ⟨i0, hi, hz0, hz1, hz2⟩ := info_parts Try.infoInt
  have HONE := Lib.hid (vi_one xs)
  rcases A with _ | a
  · obtain rfl : n = 0 := by
      rcases Nat.eq_zero_or_pos n with h | h
      · exact h
      · obtain ⟨_, _, h, _⟩ := hr.row.lies (by omega)
        cases h
    obtain rfl : xs = [] := List.eq_nil_of_length_eq_zero hr.len
    have e1 := fun w : World => Lib.run_eql_slice_nil (P := Try.prog) w 23 3 none 0 c 0 0 Try.underlying23
    go_enter Try.func57, Try.ntmps57
    go_wp2
    go_ret
    exact ⟨none, 0, rfl, World.ownsRow_nil _ _ _ _, Below.refl _ _⟩
  · have e1 := fun w : World => Lib.run_eql_slice_nil (P := Try.prog) w 23 3 (some a) n c 0 0 Try.underlying23
    go_enter Try.func57, Try.ntmps57
    go_wp2_with (at_builtin; refine wpList_append_any _ rfl (.tmp 5) (.tmp 6) _ rfl w.heap.size 3 i0 _ 1 8 Try.underlying23 hi hz0 hz1 hz2 rfl (by omega) (.slice (some ⟨w.heap.size, 0, none⟩) 0 0) 0 [] rfl (built_t w _ _) w.heap.size (some a) n c (vi xs) rfl (hr.row.reads.alloc (Nat.le_refl _) _) HONE.out (by simp only [maxLen]; omega) (by omega) (by simp) ?_; intro v1 w1 hown1 hg1 hat1)
    obtain ⟨A1, c1, rfl⟩ := pk_form hown1
    go_ret
    exact ⟨A1, c1, by simp, by simpa using hown1, below_built hg1⟩
set_option maxRecDepth 10000 in
theorem cloneK (A : Option Addr) (n c : Nat) (xs : List KE) (w : World) (hr : SlK w A n xs) (hn : n ≤ 1048576) :
    Calls Try.prog 112 #[.slice A n c] w (RowR w 40 5 n (xs.flatMap KE.cells)) := by
  obtain ⟨i0, hi, hz0, hz1, hz2⟩ := info_parts Try.infoSEdge
  have HONE := Lib.hid (ke_one xs)
  rcases A with _ | a
  · obtain rfl : n = 0 := by
      rcases Nat.eq_zero_or_pos n with h | h
      · exact h
      · obtain ⟨_, _, h, _⟩ := hr.row.lies (by omega)
        cases h
    obtain rfl : xs = [] := List.eq_nil_of_length_eq_zero hr.len
    have e1 := fun w : World => Lib.run_eql_slice_nil (P := Try.prog) w 83 40 none 0 c 0 0 Try.underlying83
    go_enter Try.func112, Try.ntmps112
    go_wp2
    go_ret
    exact ⟨none, 0, rfl, World.ownsRow_nil _ _ _ _, Below.refl _ _⟩
  · have e1 := fun w : World => Lib.run_eql_slice_nil (P := Try.prog) w 83 40 (some a) n c 0 0 Try.underlying83
    go_enter Try.func112, Try.ntmps112
    go_wp2_with (at_builtin; refine wpList_append_any _ rfl (.tmp 5) (.tmp 6) _ rfl w.heap.size 40 i0 _ 5 40 Try.underlying83 hi hz0 hz1 hz2 rfl (by omega) (.slice (some ⟨w.heap.size, 0, none⟩) 0 0) 0 [] rfl (built_t w _ _) w.heap.size (some a) n c (xs.flatMap KE.cells) rfl (hr.row.reads.alloc (Nat.le_refl _) _) HONE.out (by simp only [maxLen]; omega) (by omega) (by simp) ?_; intro v1 w1 hown1 hg1 hat1)
    obtain ⟨A1, c1, rfl⟩ := pk_form hown1
    go_ret
    exact ⟨A1, c1, by simp, by simpa using hown1, below_built hg1⟩
set_option maxRecDepth 10000 in
theorem cloneH (A : Option Addr) (n c : Nat) (xs : List HE) (w : World) (hr : SlH w A n xs) (hn : n ≤ 1048576) :
    Calls Try.prog 111 #[.slice A n c] w (RowR w 85 3 n (xs.flatMap HE.cells)) := by
  obtain ⟨i0, hi, hz0, hz1, hz2⟩ := info_parts Try.infoShard
  have HONE := Lib.hid (he_one xs)
  rcases A with _ | a
  · obtain rfl : n = 0 := by
      rcases Nat.eq_zero_or_pos n with h | h
      · exact h
      · obtain ⟨_, _, h, _⟩ := hr.row.lies (by omega)
        cases h
    obtain rfl : xs = [] := List.eq_nil_of_length_eq_zero hr.len
    have e1 := fun w : World => Lib.run_eql_slice_nil (P := Try.prog) w 24 85 none 0 c 0 0 Try.underlying24
    go_enter Try.func111, Try.ntmps111
    go_wp2
    go_ret
    exact ⟨none, 0, rfl, World.ownsRow_nil _ _ _ _, Below.refl _ _⟩
  · have e1 := fun w : World => Lib.run_eql_slice_nil (P := Try.prog) w 24 85 (some a) n c 0 0 Try.underlying24
    go_enter Try.func111, Try.ntmps111
    go_wp2_with (at_builtin; refine wpList_append_any _ rfl (.tmp 5) (.tmp 6) _ rfl w.heap.size 85 i0 _ 3 40 Try.underlying24 hi hz0 hz1 hz2 rfl (by omega) (.slice (some ⟨w.heap.size, 0, none⟩) 0 0) 0 [] rfl (built_t w _ _) w.heap.size (some a) n c (xs.flatMap HE.cells) rfl (hr.row.reads.alloc (Nat.le_refl _) _) HONE.out (by simp only [maxLen]; omega) (by omega) (by simp) ?_; intro v1 w1 hown1 hg1 hat1)
    obtain ⟨A1, c1, rfl⟩ := pk_form hown1
    go_ret
    exact ⟨A1, c1, by simp, by simpa using hown1, below_built hg1⟩
/-- The cells of one shard in a new block of their own. -/
theorem he_reads (w : World) (e : HE) (t : TypeId) (g : Nat) (hg : g = w.heap.size) : Reads (w.alloc (.cells #[.int .i64 e.lo, .int .i64 e.hi, .slice e.A e.n e.c] t)) (g + 1) 3 (some ⟨g, 0, none⟩) 1 (HE.cells e) := by
  subst hg
  refine ⟨rfl, fun _ => ⟨_, rfl, by simp, fun j v hj => ?_⟩⟩
  match j, hj with
  | 0, hj => simp [HE.cells] at hj; subst hj; simp [Addr.add]
  | 1, hj => simp [HE.cells] at hj; subst hj; simp [Addr.add]
  | 2, hj => simp [HE.cells] at hj; subst hj; simp [Addr.add]
theorem he_flat (l : List HE) (e : HE) : (l ++ [e]).flatMap HE.cells = l.flatMap HE.cells ++ e.cells := by
  rw [List.flatMap_append]
  simp
/-- A row of shards has one more, whose edges are new. -/
theorem ownHL_snoc {w w3 : World} {lo l1 : Nat} {made : List HE} {e : HE} {v : Value} {n : Nat} {xs : List Value} (h : OwnHL w lo made) (ho : w.ownsRow l1 40 5 e.v e.n (e.es.flatMap KE.cells)) (hl : e.es.length = e.n) (hlo : lo ≤ l1) (hap : ∀ a ∈ made, ApartH a e) (hv : w.ownsRow lo 85 3 v n xs) (hg : w.grownBy w3 v.ownBlock) : OwnHL w3 lo (made ++ [e]) := by
  have h1 : OwnHL w lo (made ++ [e]) := h.append (OwnHL.one (own_monoG ho hlo) hl) (fun a ha b hb => by
    rw [List.mem_singleton.1 hb]
    exact hap a ha)
  exact h1.grow hv (by decide) hg
/-- What is known of the shards while a row of them grows. -/
structure HGrow (w : World) (lo : Nat) (P : Option Addr) (k c : Nat) (made : List HE) : Prop where
  row : w.ownsRow lo 85 3 (.slice P k c) k (made.flatMap HE.cells)
  dat : OwnHL w lo made
  len : made.length = k
theorem HGrow.nil (w : World) (lo : Nat) : HGrow w lo none 0 0 [] := ⟨World.ownsRow_nil _ _ _ _, OwnHL.nil, rfl⟩
section
variable {w w' : World} {lo k c : Nat} {P : Option Addr} {made : List HE}
theorem HGrow.below (h : HGrow w lo P k c made) (hb : Below w.heap.size w w') : HGrow w' lo P k c made := ⟨own_below h.row hb, h.dat.below hb, h.len⟩
theorem HGrow.own (h : HGrow w lo P k c made) : OwnH w lo P k c made := ⟨h.row, h.len, h.dat⟩
theorem HGrow.box {b i : Nat} {cs : Array Value} {t : TypeId} (h : HGrow w lo P k c made) (hb : Blk w b cs t) (h1 : 85 ≠ t) (h2 : 40 ≠ t) (u : Value) : HGrow (w.setCell ⟨b, i, none⟩ u) lo P k c made := by
  have hg := grown_cell w b i u
  exact ⟨own_kept h.row hg (own_kind h.row hb h1), h.dat.kept hg (fun d hd => .inr (own_kind (h.dat.own d hd) hb h2)), h.len⟩
end
set_option maxRecDepth 20000 in
set_option maxHeartbeats 8000000 in
/-- The model's copy of a farm. -/
theorem specCopyFarm (N : Int) (A : Option Addr) (n c : Nat) (E : List Int) (B : Option Addr) (m d : Nat) (bs : List HE) (w : World) (hA : SlI w A n E) (hB : SlH w B m bs) (hn : n ≤ 1048576) (hm : m ≤ 1048576) (hs : ∀ e ∈ bs, e.n ≤ 1048576) :
    Calls Try.prog 83 #[.agg #[.int .i64 N, .slice A n c, .slice B m d]] w (MadeF w N E (sdL bs)) := by
  obtain ⟨i0, hi, hz0, hz1, hz2⟩ := info_parts Try.infoInt
  obtain ⟨j0, hj, hy0, hy1, hy2⟩ := info_parts Try.infoShard
  have HB := Lib.hid hB
  have HA := Lib.hid hA
  have HL := Lib.hid hB.len
  have HLE := Lib.hid hA.len
  have HS := Lib.hid hs
  have HON := Lib.hid (vi_one E)
  clear hA hB hs
  have H_1 := Lib.hid (g_chain (g_chain (Below.refl w.heap.size w) (below_a1 w (.cells #[.int .i64 N, .slice A n c, .slice B m d] 26))) (below_a1 (w.alloc (.cells #[.int .i64 N, .slice A n c, .slice B m d] 26)) (.cells #[.int .i64 0, .slice none 0 0, .slice none 0 0] 26)))
  have BX_2 : Hid (Blk ((w.alloc (.cells #[.int .i64 N, .slice A n c, .slice B m d] 26)).alloc (.cells #[.int .i64 0, .slice none 0 0, .slice none 0 0] 26)) (w.heap.size) #[.int .i64 N, .slice A n c, .slice B m d] 26) := Lib.hid (by have h := (Blk.new w #[.int .i64 N, .slice A n c, .slice B m d] 26).alloc (.cells #[.int .i64 0, .slice none 0 0, .slice none 0 0] 26); simpa [Nat.add_assoc] using h)
  have BZ_3 : Hid (Blk ((w.alloc (.cells #[.int .i64 N, .slice A n c, .slice B m d] 26)).alloc (.cells #[.int .i64 0, .slice none 0 0, .slice none 0 0] 26)) (w.heap.size + 1) #[.int .i64 0, .slice none 0 0, .slice none 0 0] 26) := Lib.hid (by have h := Blk.new (w.alloc (.cells #[.int .i64 N, .slice A n c, .slice B m d] 26)) #[.int .i64 0, .slice none 0 0, .slice none 0 0] 26; simpa [Nat.add_assoc] using h)
  have sz0 : Hid (w.heap.size + 2 ≤ ((w.alloc (.cells #[.int .i64 N, .slice A n c, .slice B m d] 26)).alloc (.cells #[.int .i64 0, .slice none 0 0, .slice none 0 0] 26)).heap.size) := Lib.hid (by simp)
  have R1 := Lib.hid (HA.out.below H_1.out).row.reads
  go_enter Try.func83, Try.ntmps83
  have HBK : Hid ((((w.alloc (.cells #[.int .i64 N, .slice A n c, .slice B m d] 26)).alloc (.cells #[.int .i64 0, .slice none 0 0, .slice none 0 0] 26)).alloc (.cells #[] 3)).ownsRow (w.heap.size + 1 + 1) 3 1 (.slice (some ⟨w.heap.size + 1 + 1, 0, none⟩) 0 0) 0 []) := Lib.hid (by have h := built_t ((w.alloc (.cells #[.int .i64 N, .slice A n c, .slice B m d] 26)).alloc (.cells #[.int .i64 0, .slice none 0 0, .slice none 0 0] 26)) 3 1; simpa using h)
  have x_4 := BX_2.out.cell (i := 0) rfl
  have x_5 := BX_2.out.cell (i := 1) rfl
  have x_6 := BX_2.out.cell (i := 2) rfl
  have fz_7 := fun i => BX_2.out.frozen i
  have lt_8 := BX_2.out.lt
  go_wp2_with (at_builtin; refine wpList_append_any _ rfl (.tmp 6) (.tmp 8) _ rfl (w.heap.size + 1 + 1) 3 i0 _ 1 8 Try.underlying23 hi hz0 hz1 hz2 rfl (by omega) (.slice (some ⟨w.heap.size + 1 + 1, 0, none⟩) 0 0) 0 [] rfl HBK.out _ A n c (vi E) rfl (R1.out.alloc (Nat.le_refl _) _) HON.out (by simp only [maxLen]; omega) (by omega) (by simp) ?_)
  intro v1 w1 hown hg _
  try simp only [Nat.zero_add, List.nil_append] at hown
  obtain ⟨A1, c1, rfl⟩ := pk_form hown
  clear x_4 x_5 x_6 fz_7 lt_8
  have hb_9 := below_a1 ((w.alloc (.cells #[.int .i64 N, .slice A n c, .slice B m d] 26)).alloc (.cells #[.int .i64 0, .slice none 0 0, .slice none 0 0] 26)) (.cells #[] 3)
  have sz_10 : Hid (((w.alloc (.cells #[.int .i64 N, .slice A n c, .slice B m d] 26)).alloc (.cells #[.int .i64 0, .slice none 0 0, .slice none 0 0] 26)).heap.size = w.heap.size + 2) := Lib.hid (by simp)
  have sz_11 := Lib.hid BX_2.out.lt
  have sz_12 := Lib.hid BZ_3.out.lt
  have H_13 := Lib.hid (g_chain H_1.out hb_9)
  clear H_1
  have BX_14 := Lib.hid (BX_2.out.below hb_9)
  clear BX_2
  have BZ_15 := Lib.hid (BZ_3.out.below hb_9)
  clear BZ_3
  have sz_16 := Lib.hid (Below.size hb_9)
  clear hb_9
  have sz_17 : Hid (w.heap.size + 2 + 1 ≤ (((w.alloc (.cells #[.int .i64 N, .slice A n c, .slice B m d] 26)).alloc (.cells #[.int .i64 0, .slice none 0 0, .slice none 0 0] 26)).alloc (.cells #[] 3)).heap.size) := Lib.hid (by simp)
  have hg2 : ((((w.alloc (.cells #[.int .i64 N, .slice A n c, .slice B m d] 26)).alloc (.cells #[.int .i64 0, .slice none 0 0, .slice none 0 0] 26)).alloc (.cells #[] 3))).grownBy w1 (some (w.heap.size + 2)) := hg
  have H_18 := Lib.hid (H_13.out.grown hg2 H_13.out.size (fun k hk => by have hk2 : some (w.heap.size + 2) = some k := hk; injection hk2 with hk2; have := sz0.out; have := sz_10.out; have := sz_11.out; have := sz_12.out; have := sz_16.out; have := sz_17.out; omega))
  clear H_13
  have BX_19 := Lib.hid (BX_14.out.grown hg2 (by show some (w.heap.size + 2) ≠ some _; intro e; injection e with e; have := sz0.out; have := sz_10.out; have := sz_11.out; have := sz_12.out; have := sz_16.out; have := sz_17.out; omega))
  clear BX_14
  have BZ_20 := Lib.hid (BZ_15.out.grown hg2 (by show some (w.heap.size + 2) ≠ some _; intro e; injection e with e; have := sz0.out; have := sz_10.out; have := sz_11.out; have := sz_12.out; have := sz_16.out; have := sz_17.out; omega))
  clear BZ_15
  have sz_21 := Lib.hid (World.grownBy.size hg2)
  have OE_22 := Lib.hid (hown)
  have LE := Lib.hid hown.lt
  clear hg hg2 hown
  have x_23 := BX_19.out.cell (i := 0) rfl
  have x_24 := BX_19.out.cell (i := 1) rfl
  have x_25 := BX_19.out.cell (i := 2) rfl
  have fz_26 := fun i => BX_19.out.frozen i
  have lt_27 := BX_19.out.lt
  skip
  have hg_28 := grown_cell w1 (w.heap.size) 1 (.slice A1 n c1)
  have H_29 := Lib.hid (H_18.out.grown hg_28 H_18.out.size (fun j hj => by injection hj with hj; have := sz0.out; have := sz_10.out; have := sz_11.out; have := sz_12.out; have := sz_16.out; have := sz_17.out; have := sz_21.out; omega))
  clear H_18
  have BZ_30 := Lib.hid (BZ_20.out.grown hg_28 (by intro e; injection e with e; have := sz0.out; have := sz_10.out; have := sz_11.out; have := sz_12.out; have := sz_16.out; have := sz_17.out; have := sz_21.out; omega))
  clear BZ_20
  have OE_31 := Lib.hid (own_kept OE_22.out hg_28 (own_kind OE_22.out BX_19.out (by decide)))
  clear OE_22
  have BX_32 : Hid (Blk (w1.setCell ⟨w.heap.size, 1, none⟩ (.slice A1 n c1)) (w.heap.size) #[.int .i64 N, .slice A1 n c1, .slice B m d] 26) := Lib.hid (Blk.set (BX_19.out) 1 (.slice A1 n c1))
  clear BX_19
  have sz_33 := Lib.hid (World.grownBy.size hg_28)
  clear hg_28
  have hb_34 := below_a1 (w1.setCell ⟨w.heap.size, 1, none⟩ (.slice A1 n c1)) (.cells #[] 85)
  have sz_35 := Lib.hid BX_32.out.lt
  have sz_36 := Lib.hid BZ_30.out.lt
  have LT_37 := Lib.hid OE_31.out.lt
  have H_38 := Lib.hid (g_chain H_29.out hb_34)
  clear H_29
  have BX_39 := Lib.hid (BX_32.out.below hb_34)
  clear BX_32
  have BZ_40 := Lib.hid (BZ_30.out.below hb_34)
  clear BZ_30
  have OE_41 := Lib.hid (own_below OE_31.out hb_34)
  clear OE_31
  have sz_42 := Lib.hid (Below.size hb_34)
  clear hb_34
  have sz_43 : Hid ((w1.setCell ⟨w.heap.size, 1, none⟩ (.slice A1 n c1)).heap.size + 1 ≤ ((w1.setCell ⟨w.heap.size, 1, none⟩ (.slice A1 n c1)).alloc (.cells #[] 85)).heap.size) := Lib.hid (by simp)
  have ROW0 : Hid (HGrow ((w1.setCell ⟨w.heap.size, 1, none⟩ (.slice A1 n c1)).alloc (.cells #[] 85)) ((w1.setCell ⟨w.heap.size, 1, none⟩ (.slice A1 n c1))).heap.size (some ⟨((w1.setCell ⟨w.heap.size, 1, none⟩ (.slice A1 n c1))).heap.size, 0, none⟩) 0 0 []) := Lib.hid ⟨built_t (w1.setCell ⟨w.heap.size, 1, none⟩ (.slice A1 n c1)) _ _, OwnHL.nil, rfl⟩
  go_wp2
  have HG0 : Hid (HGrow ((w1.setCell ⟨w.heap.size, 1, none⟩ (.slice A1 n c1)).alloc (.cells #[] 85)) w.heap.size (some ⟨w1.heap.size, 0, none⟩) 0 0 []) := Lib.hid (by have h := ROW0.out; simp only [World.size_setCell] at h; exact ⟨own_monoG h.row (by have := sz0.out; have := sz_10.out; have := sz_11.out; have := sz_12.out; have := sz_16.out; have := sz_17.out; have := sz_21.out; have := sz_33.out; have := sz_35.out; have := sz_36.out; have := sz_42.out; have := sz_43.out; omega), OwnHL.nil, rfl⟩)
  have HE0 := Lib.hid (own_monoG (lo' := w.heap.size) OE_41.out (by omega))
  have LEN0 := Lib.hid (fun g (hg : (Value.slice A1 n c1).ownBlock = some g) => (LE.out g hg).1)
  go_loopw [3, 15] (fun s i wr => ∃ (k : Nat) (P : Option Addr) (cP : Nat) (made : List HE), k ≤ m ∧ i = .int .i64 (k : Int) ∧ s = .slice P k cP ∧ Hid (HGrow wr w.heap.size P k cP made) ∧ Hid (made.map HE.sd = (bs.take k).map HE.sd) ∧ Hid (Blk wr w.heap.size #[.int .i64 N, .slice A1 n c1, .slice B m d] 26) ∧ Hid (Blk wr (w.heap.size + 1) #[.int .i64 0, .slice none 0 0, .slice none 0 0] 26) ∧ Hid (wr.ownsRow w.heap.size 3 1 (.slice A1 n c1) n (vi E)) ∧ Hid (Below w.heap.size w wr)) (fun _ i _ => m - (intOf i).toNat)
  case atStart => exact ⟨0, _, 0, [], Nat.zero_le _, rfl, rfl, HG0, Lib.hid rfl, BX_39, BZ_40, HE0, H_38⟩
  case round =>
    clear BX_39 BZ_40 H_38 HG0 HE0 ROW0 OE_41
    obtain ⟨k, P, cP, made, hk, rfl, rfl, hgr, hmap, hbx, hbz, hoe, hbel⟩ := hrel
    by_cases hlt : k < m
    · obtain ⟨b, off, e, rfl, hbw, he, hok, c0, c1', c2⟩ := HB.out.at_ hlt
      obtain ⟨elo, ehi, eA, en, ec, ees⟩ := e
      have c0 : wr.cell? ⟨b, off + k * 3, none⟩ = some (.int .i64 elo) := (hbel.out.cell (p := ⟨b, off + k * 3, none⟩) hbw).trans c0
      have c1' : wr.cell? ⟨b, off + k * 3 + 1, none⟩ = some (.int .i64 ehi) := (hbel.out.cell (p := ⟨b, off + k * 3 + 1, none⟩) hbw).trans c1'
      have c2 : wr.cell? ⟨b, off + k * 3 + 2, none⟩ = some (.slice eA en ec) := (hbel.out.cell (p := ⟨b, off + k * 3 + 2, none⟩) hbw).trans c2
      have HTK : Hid ((bs.take (k + 1)).map HE.sd = (bs.take k).map HE.sd ++ [(elo, ehi, ees)]) := Lib.hid (by rw [g_take bs k _ he.out, List.map_append]; rfl)
      have HEL : Hid (ees.length = en) := Lib.hid hok.out.rd.len
      have hen : en ≤ 1048576 := HS.out _ (List.mem_of_getElem? he.out)
      have C := Lib.hid (fun W (h : Below w.heap.size w W) => copySh_any elo ehi eA en ec ees W (hok.out.rd.below h) hen)
      unfold MadeSh at C
      rw [HEL.out] at C
      have HA := Lib.hid (below_a1 wr (.cells #[.int .i64 elo, .int .i64 ehi, .slice eA en ec] 85))
      have G1 := Lib.hid (hgr.out.below HA.out)
      have B1 := Lib.hid (hbx.out.below HA.out)
      have Z1 := Lib.hid (hbz.out.below HA.out)
      have E1 := Lib.hid (own_below hoe.out HA.out)
      have H1 := Lib.hid (g_chain hbel.out HA.out)
      have LT := Lib.hid hgr.out.dat
      have hws : wr.heap.size ≤ (wr.alloc (.cells #[.int .i64 elo, .int .i64 ehi, .slice eA en ec] 85)).heap.size := by simp
      clear hok he hgr hbx hbz hoe hbel HA
      go_wp2_with fail
      refine (C.out _ H1.out).mono ?_
      rintro e1 w2 ⟨A2, c3, rfl, ho, hb⟩
      have AP := Lib.hid (apartH_of_time LT.out hws (OwnHL.one (d := ⟨elo, ehi, A2, en, c3, ees⟩) ho HEL.out) (Nat.le_refl _))
      have O2 := Lib.hid ho
      have G2 := Lib.hid (G1.out.below hb)
      have B2 := Lib.hid (B1.out.below hb)
      have Z2 := Lib.hid (Z1.out.below hb)
      have E2 := Lib.hid (own_below E1.out hb)
      have hsz2 : w.heap.size ≤ (wr.alloc (.cells #[.int .i64 elo, .int .i64 ehi, .slice eA en ec] 85)).heap.size := H1.out.size
      have H2 := Lib.hid (g_chain H1.out hb)
      clear ho hb c0 c1' c2 G1 B1 Z1 E1 H1 LT C
      have HX := Lib.hid (below_a1 w2 (.cells #[.int .i64 elo, .int .i64 ehi, .slice A2 en c3] 85))
      have G3 := Lib.hid (G2.out.below HX.out)
      have B3 := Lib.hid (B2.out.below HX.out)
      have Z3 := Lib.hid (Z2.out.below HX.out)
      have E3 := Lib.hid (own_below E2.out HX.out)
      have O3 := Lib.hid (own_below O2.out HX.out)
      have H3 := Lib.hid (g_chain H2.out HX.out)
      have RD := Lib.hid (he_reads w2 ⟨elo, ehi, A2, en, c3, ees⟩ 85 _ rfl)
      have ON := Lib.hid (HE.cells_one ⟨elo, ehi, A2, en, c3, ees⟩)
      go_wp2_with (at_builtin; refine wpList_append_any _ rfl (.tmp 19) (.tmp 22) _ rfl w.heap.size 85 j0 _ 3 40 Try.underlying24 hj hy0 hy1 hy2 rfl (by omega) (.slice P k cP) k (made.flatMap HE.cells) rfl G3.out.row _ (some ⟨w2.heap.size, 0, none⟩) 1 1 (HE.cells ⟨elo, ehi, A2, en, c3, ees⟩) rfl RD.out ON.out (by simp only [maxLen]; omega) (by omega) H3.out.size ?_)
      intro v4 w4 hown4 hg4 _
      obtain ⟨P4, c4, rfl⟩ := pk_form hown4
      have G4 : Hid (HGrow w4 w.heap.size P4 (k + 1) c4 (made ++ [⟨elo, ehi, A2, en, c3, ees⟩])) := Lib.hid ⟨by rw [he_flat]; exact hown4, ownHL_snoc (e := ⟨elo, ehi, A2, en, c3, ees⟩) G3.out.dat O3.out HEL.out hsz2 (fun a ha => AP.out a ha _ (by simp)) G3.out.row hg4, by rw [List.length_append, G3.out.len]; rfl⟩
      have B4 := Lib.hid (B3.out.grown hg4 (own_kind G3.out.row B3.out (by decide)))
      have Z4 := Lib.hid (Z3.out.grown hg4 (own_kind G3.out.row Z3.out (by decide)))
      have E4 := Lib.hid (E3.out.kept hg4 ((own_types E3.out G3.out.row (by decide)).imp id fun h e => h e.symm))
      have H4 := Lib.hid (H3.out.grown hg4 H3.out.size (fun q hq => (G3.out.row.lt q hq).1))
      have M4 : Hid ((made ++ [(⟨elo, ehi, A2, en, c3, ees⟩ : HE)]).map HE.sd = (bs.take (k + 1)).map HE.sd) := Lib.hid (by rw [HTK.out, List.map_append, hmap.out]; rfl)
      clear hown4 hg4 G3 B3 Z3 E3 O3 H3 G2 B2 Z2 E2 O2 H2 HX RD ON AP
      go_wp2
      go_roundw
      case rel => exact ⟨k + 1, P4, c4, _, by omega, by go_num, rfl, G4, M4, B4, Z4, E4, H4⟩
      case measure => simp [intOf]; omega
    · obtain rfl : k = m := by omega
      have HGR := Lib.hid hgr.out
      have HOE := Lib.hid hoe.out
      have x_901 := hbx.out.cell (i := 0) rfl
      have x_902 := hbx.out.cell (i := 1) rfl
      have x_903 := hbx.out.cell (i := 2) rfl
      have fz_904 := fun i => hbx.out.frozen i
      have lt_905 := hbx.out.lt
      have x_906 := hbz.out.cell (i := 0) rfl
      have x_907 := hbz.out.cell (i := 1) rfl
      have x_908 := hbz.out.cell (i := 2) rfl
      have fz_909 := fun i => hbz.out.frozen i
      have lt_910 := hbz.out.lt
      have hz0 := hbz.out.lt
      go_wp2
      have hg_911 := grown_cell wr (w.heap.size) 2 (.slice P k cP)
      have BZ_912 := Lib.hid (hbz.out.grown hg_911 (by intro e; injection e with e; omega))
      have H_913 := Lib.hid (hbel.out.grown hg_911 hbel.out.size (fun j hj => by injection hj with hj; omega))
      clear hbel
      have OE_914 := Lib.hid (own_kept hoe.out hg_911 (own_kind hoe.out hbx.out (by decide)))
      have BX_915 : Hid (Blk (wr.setCell ⟨w.heap.size, 2, none⟩ (.slice P k cP)) (w.heap.size) #[.int .i64 N, .slice A1 n c1, .slice P k cP] 26) := Lib.hid (Blk.set (hbx.out) 2 (.slice P k cP))
      have sz_916 := Lib.hid (World.grownBy.size hg_911)
      clear hg_911
      have hg_917 := ((grown_cell (wr.setCell ⟨w.heap.size, 2, none⟩ (.slice P k cP)) (w.heap.size + 1) 0 (.int .i64 N)).trans (grown_cell ((wr.setCell ⟨w.heap.size, 2, none⟩ (.slice P k cP)).setCell ⟨w.heap.size + 1, 0, none⟩ (.int .i64 N)) (w.heap.size + 1) 1 (.slice A1 n c1))).trans (grown_cell (((wr.setCell ⟨w.heap.size, 2, none⟩ (.slice P k cP)).setCell ⟨w.heap.size + 1, 0, none⟩ (.int .i64 N)).setCell ⟨w.heap.size + 1, 1, none⟩ (.slice A1 n c1)) (w.heap.size + 1) 2 (.slice P k cP))
      have BX_918 := Lib.hid (BX_915.out.grown hg_917 (by intro e; injection e with e; have := sz_916.out; omega))
      clear BX_915
      have H_919 := Lib.hid (H_913.out.grown hg_917 H_913.out.size (fun j hj => by injection hj with hj; have := sz_916.out; omega))
      clear H_913
      have OE_920 := Lib.hid (own_kept OE_914.out hg_917 (own_kind OE_914.out BZ_912.out (by decide)))
      clear OE_914
      have BZ_921 : Hid (Blk ((((wr.setCell ⟨w.heap.size, 2, none⟩ (.slice P k cP)).setCell ⟨w.heap.size + 1, 0, none⟩ (.int .i64 N)).setCell ⟨w.heap.size + 1, 1, none⟩ (.slice A1 n c1)).setCell ⟨w.heap.size + 1, 2, none⟩ (.slice P k cP)) (w.heap.size + 1) #[.int .i64 N, .slice A1 n c1, .slice P k cP] 26) := Lib.hid (Blk.set (Blk.set (Blk.set (BZ_912.out) 0 (.int .i64 N)) 1 (.slice A1 n c1)) 2 (.slice P k cP))
      clear BZ_912
      have sz_922 := Lib.hid (World.grownBy.size hg_917)
      clear hg_917
      refine bodyPost_ret (v := .agg #[.int .i64 N, .slice A1 n c1, .slice P k cP]) (by simp [results, Try.results83, go_sem, x_906, x_907, x_908]) rfl ?_
      have G9 : Hid (HOwn ((((wr.setCell ⟨w.heap.size, 2, none⟩ (.slice P k cP)).setCell ⟨w.heap.size + 1, 0, none⟩ (.int .i64 N)).setCell ⟨w.heap.size + 1, 1, none⟩ (.slice A1 n c1)).setCell ⟨w.heap.size + 1, 2, none⟩ (.slice P k cP)) w.heap.size w.heap.size (((((wr.setCell ⟨w.heap.size, 2, none⟩ (.slice P k cP)).setCell ⟨w.heap.size + 1, 0, none⟩ (.int .i64 N)).setCell ⟨w.heap.size + 1, 1, none⟩ (.slice A1 n c1)).setCell ⟨w.heap.size + 1, 2, none⟩ (.slice P k cP))).heap.size P k cP (sdL bs)) := Lib.hid (by
        have h1 := HGR.out.own
        have hw : OnlyB (fun g => g = w.heap.size ∨ g = w.heap.size + 1) wr ((((wr.setCell ⟨w.heap.size, 2, none⟩ (.slice P k cP)).setCell ⟨w.heap.size + 1, 0, none⟩ (.int .i64 N)).setCell ⟨w.heap.size + 1, 1, none⟩ (.slice A1 n c1)).setCell ⟨w.heap.size + 1, 2, none⟩ (.slice P k cP)) := by
          repeat (first | exact OnlyB.refl _ _ | refine OnlyB.grown ?_ (grown_cell _ _ _ _) (fun i hi => by injection hi with hi; omega))
        have h2 := h1.but hw (fun g hg hh => by
          rcases hg with hg | ⟨dd, hd, hg⟩
          · rcases hh with rfl | rfl
            · exact own_kind h1.row hbx.out (by decide) hg
            · exact own_kind h1.row hbz.out (by decide) hg
          · rcases hh with rfl | rfl
            · exact own_kind (h1.dat.own dd hd) hbx.out (by decide) hg
            · exact own_kind (h1.dat.own dd hd) hbz.out (by decide) hg)
        exact HOwn.of h2 (by rw [hmap.out, List.take_of_length_le (by rw [HL.out]; exact Nat.le_refl _)]; rfl))
      have e1 := HLE.out
      have e2 : (sdL bs).length = k := by rw [sdL_len, HL.out]
      have RE := Lib.hid (hoe.out.lt)
      refine ⟨A1, c1, P, cP, by rw [e1, e2], ?_, H_919.out⟩
      rw [e1, e2]
      exact ⟨OE_920.out, G9.out, fun g hg => (show w.heap.size ≤ g ∧ g < (((((wr.setCell ⟨w.heap.size, 2, none⟩ (.slice P k cP)).setCell ⟨w.heap.size + 1, 0, none⟩ (.int .i64 N)).setCell ⟨w.heap.size + 1, 1, none⟩ (.slice A1 n c1)).setCell ⟨w.heap.size + 1, 2, none⟩ (.slice P k cP))).heap.size by have h3 := RE.out g hg; have := sz_916.out; have := sz_922.out; omega)⟩
end Go.Proofs.Ytpgnappddddlpaa
namespace Go.Proofs.Ytpgnappddddlpaa
open Go.RowKit

/-! ### other values -/
def withS (vals : List Int) (s : SD) : SD := (s.1, s.2.1, s.2.2.map (KE.put vals))
def withB (N : Int) (E : List Int) (l : List SD) (vals : List Int) : Bool := farmB N E l && (decide (vals.length = (flatK l).length) && valsB vals)
def fwN (N : Int) (E : List Int) (l : List SD) (vals : List Int) : Int := if withB N E l vals then N else 0
def fwE (N : Int) (E : List Int) (l : List SD) (vals : List Int) : List Int := if withB N E l vals then E else []
def fwL (N : Int) (E : List Int) (l : List SD) (vals : List Int) : List SD := if withB N E l vals then l.map (withS vals) else []
theorem fw_no {N : Int} {E : List Int} {l : List SD} {vals : List Int} (h : withB N E l vals = false) : fwN N E l vals = 0 ∧ fwE N E l vals = [] ∧ fwL N E l vals = [] := by simp [fwN, fwE, fwL, h]
theorem fw_yes {N : Int} {E : List Int} {l : List SD} {vals : List Int} (h : withB N E l vals = true) : fwN N E l vals = N ∧ fwE N E l vals = E ∧ fwL N E l vals = l.map (withS vals) := by simp [fwN, fwE, fwL, h]
theorem with_no1 {N : Int} {E : List Int} {l : List SD} {vals : List Int} (h : farmB N E l = false) : withB N E l vals = false := by simp [withB, h]
theorem with_no2 {N : Int} {E : List Int} {l : List SD} {vals : List Int} (h : (decide (vals.length = (flatK l).length) && valsB vals) = false) : withB N E l vals = false := by simp [withB, h]
theorem with_yes {N : Int} {E : List Int} {l : List SD} {vals : List Int} (h : farmB N E l = true) (h2 : (decide (vals.length = (flatK l).length) && valsB vals) = true) : withB N E l vals = true := by simp [withB, h, h2]
theorem withB_iff {N : Int} {E : List Int} {l : List SD} {vals : List Int} (h : withB N E l vals = true) : farmB N E l = true ∧ vals.length = (flatK l).length ∧ ∀ x ∈ vals, valB x = true := by
  unfold withB valsB at h
  rw [Bool.and_eq_true, Bool.and_eq_true, decide_eq_true_eq, List.all_eq_true] at h
  exact ⟨h.1, h.2.1, h.2.2⟩
/-- Every shard takes the values. -/
theorem with_each {N : Int} {E : List Int} {l : List SD} {vals : List Int} (h : withB N E l vals = true) {s : SD} (hs : s ∈ l) : valsK s.1 s.2.1 s.2.2 vals = true := by
  obtain ⟨h1, h2, h3⟩ := withB_iff h
  have hj := (farmB_iff h1).2.2
  unfold valsK
  rw [chain_each (joinB_chain hj) s hs, Bool.true_and, List.all_eq_true]
  intro e he
  have hm : e ∈ flatK l := List.mem_flatMap.2 ⟨s, hs, he⟩
  have hi := (join_inds hj).2.1 e hm
  obtain ⟨j, hjj⟩ : ∃ j : Nat, e.i = (j : Int) := ⟨e.i.toNat, by omega⟩
  have hjl : j < vals.length := by omega
  have hv := h3 _ (List.getElem_mem hjl)
  unfold valB at hv
  rw [decide_eq_true_eq] at hv
  unfold valAt numOk
  rw [if_pos (by omega), hjj, Int.toNat_natCast, List.getElem?_eq_getElem hjl, decide_eq_true_eq]
  simp only [Option.getD_some]
  omega
theorem flatK_with (vals : List Int) : ∀ l : List SD, flatK (l.map (withS vals)) = (flatK l).map (KE.put vals)
  | [] => rfl
  | s :: r => by
    rw [List.map_cons, flatK_cons, flatK_cons, List.map_append, flatK_with vals r]
    rfl
theorem fw_few {N : Int} {E : List Int} {l : List SD} {vals : List Int} : (fwE N E l vals).length ≤ 150 ∧ (fwL N E l vals).length + (flatK (fwL N E l vals)).length ≤ 550 := by
  cases h : withB N E l vals with
  | false => obtain ⟨_, e2, e3⟩ := fw_no h; rw [e2, e3]; simp [flatK]
  | true =>
    obtain ⟨_, e2, e3⟩ := fw_yes h
    have h1 := (withB_iff h).1
    have h2 := farm_few h1
    have h3 := (farm_inds h1).1
    have h4 := farm_len h1
    rw [e2, e3, flatK_with, List.length_map, List.length_map]
    omega

/-! ### locations -/
structure LE where
  s : Int
  p : Int
  e : KE
def LE.cells (x : LE) : List Value := [.int .i64 x.s, .int .i64 x.p, .int .i64 x.e.f, .int .i64 x.e.t, .int .i64 x.e.w, .int .i64 x.e.i, .int .i64 x.e.v]
theorem LE.cells_len (x : LE) : x.cells.length = 7 := rfl
theorem LE.cells_one (x : LE) : ∀ u ∈ x.cells, u.oneCell' = true := by
  intro u hu
  simp [LE.cells] at hu
  rcases hu with rfl | rfl | rfl | rfl | rfl | rfl | rfl <;> rfl
theorem le_one (es : List LE) : ∀ u ∈ es.flatMap LE.cells, u.oneCell' = true := fun u hu => by
  obtain ⟨e, _, he⟩ := List.mem_flatMap.1 hu
  exact e.cells_one u he
def sameE (a b : KE) : Bool := decide (a.f = b.f ∧ a.t = b.t ∧ a.w = b.w ∧ a.i = b.i)
def fitE (es : List KE) (x : LE) : Bool := decide (0 ≤ x.p) && (match es[x.p.toNat]? with | some e => sameE e x.e | none => false)
def fitB (l : List SD) (x : LE) : Bool := decide (0 ≤ x.s) && (valB x.e.v && (match l[x.s.toNat]? with | some s => fitE s.2.2 x | none => false))
def putE (l : List SD) (x : LE) : List SD := match l[x.s.toNat]? with
  | some s => l.set x.s.toNat (s.1, s.2.1, s.2.2.set x.p.toNat x.e)
  | none => l
def putL (l : List SD) (xs : List LE) : List SD := xs.foldl putE l
theorem putE_len (l : List SD) (x : LE) : (putE l x).length = l.length := by
  unfold putE
  split
  · rw [List.length_set]
  · rfl
theorem putL_len : ∀ (xs : List LE) (l : List SD), (putL l xs).length = l.length
  | [], _ => rfl
  | x :: r, l => by
    show (putL (putE l x) r).length = l.length
    rw [putL_len r, putE_len]
theorem putL_step {l : List SD} {xs : List LE} {k : Nat} {x : LE} (h : xs[k]? = some x) : putL l (xs.take (k + 1)) = putE (putL l (xs.take k)) x := by
  rw [g_take xs k x h]
  unfold putL
  rw [List.foldl_append]
  rfl
theorem fitB_iff {l : List SD} {x : LE} (h : fitB l x = true) : 0 ≤ x.s ∧ valB x.e.v = true ∧ 0 ≤ x.p ∧ ∃ s e, l[x.s.toNat]? = some s ∧ s.2.2[x.p.toNat]? = some e ∧ e.f = x.e.f ∧ e.t = x.e.t ∧ e.w = x.e.w ∧ e.i = x.e.i := by
  unfold fitB at h
  rw [Bool.and_eq_true, Bool.and_eq_true, decide_eq_true_eq] at h
  obtain ⟨h1, h2, h3⟩ := h
  cases hs : l[x.s.toNat]? with
  | none => rw [hs] at h3; cases h3
  | some s =>
    rw [hs] at h3
    simp only at h3
    unfold fitE at h3
    rw [Bool.and_eq_true, decide_eq_true_eq] at h3
    cases he : s.2.2[x.p.toNat]? with
    | none => rw [he] at h3; cases h3.2
    | some e =>
      rw [he] at h3
      have h4 := of_decide_eq_true h3.2
      exact ⟨h1, h2, h3.1, s, e, rfl, he, h4⟩
/-- What an edge says but for its value stays when a fitting location is written. -/
theorem edge_put {l : List SD} {y : LE} (hy : fitB l y = true) (i j : Nat) : ((putE l y)[i]?).bind (fun s => (s.2.2[j]?).map (fun e => (e.f, e.t, e.w, e.i))) = (l[i]?).bind (fun s => (s.2.2[j]?).map (fun e => (e.f, e.t, e.w, e.i))) := by
  obtain ⟨h1, h2, h3, s, e, hs, he, h4, h5, h6, h7⟩ := fitB_iff hy
  unfold putE
  rw [hs]
  simp only
  rw [List.getElem?_set]
  by_cases hi : y.s.toNat = i
  · subst hi
    rw [if_pos rfl, if_pos (List.getElem?_eq_some_iff.1 hs).1, hs]
    simp only [Option.bind_some]
    rw [List.getElem?_set]
    by_cases hj : y.p.toNat = j
    · subst hj
      rw [if_pos rfl, if_pos (List.getElem?_eq_some_iff.1 he).1, he]
      simp [h4, h5, h6, h7]
    · rw [if_neg hj]
  · rw [if_neg hi]
theorem fit_form (l : List SD) (x : LE) : fitB l x = (decide (0 ≤ x.s) && (valB x.e.v && (decide (0 ≤ x.p) && decide ((l[x.s.toNat]?).bind (fun s => (s.2.2[x.p.toNat]?).map (fun e => (e.f, e.t, e.w, e.i))) = some (x.e.f, x.e.t, x.e.w, x.e.i))))) := by
  unfold fitB
  congr 2
  cases hs : l[x.s.toNat]? with
  | none => simp
  | some s =>
    simp only [Option.bind_some]
    unfold fitE
    congr 1
    rcases Option.eq_none_or_eq_some (s.2.2[x.p.toNat]?) with he | ⟨e, he⟩
    · simp [he]
    · simp [he, sameE]
theorem fit_put {l : List SD} {y x : LE} (hy : fitB l y = true) : fitB (putE l y) x = fitB l x := by
  rw [fit_form, fit_form, edge_put hy]
theorem fit_putL {x : LE} : ∀ {xs : List LE} {l : List SD}, (∀ y ∈ xs, fitB l y = true) → fitB (putL l xs) x = fitB l x
  | [], _, _ => rfl
  | y :: r, l, h => by
    show fitB (putL (putE l y) r) x = fitB l x
    have hy := h y (by simp)
    rw [fit_putL (fun z hz => by rw [fit_put hy]; exact h z (by simp [hz])), fit_put hy]
def putB (N : Int) (E : List Int) (l : List SD) (xs : List LE) : Bool := farmB N E l && xs.all (fitB l)
def fpN (N : Int) (E : List Int) (l : List SD) (xs : List LE) : Int := if putB N E l xs then N else 0
def fpE (N : Int) (E : List Int) (l : List SD) (xs : List LE) : List Int := if putB N E l xs then E else []
def fpL (N : Int) (E : List Int) (l : List SD) (xs : List LE) : List SD := if putB N E l xs then putL l xs else []
theorem fp_no {N : Int} {E : List Int} {l : List SD} {xs : List LE} (h : putB N E l xs = false) : fpN N E l xs = 0 ∧ fpE N E l xs = [] ∧ fpL N E l xs = [] := by simp [fpN, fpE, fpL, h]
theorem fp_yes {N : Int} {E : List Int} {l : List SD} {xs : List LE} (h : putB N E l xs = true) : fpN N E l xs = N ∧ fpE N E l xs = E ∧ fpL N E l xs = putL l xs := by simp [fpN, fpE, fpL, h]
theorem put_no1 {N : Int} {E : List Int} {l : List SD} {xs : List LE} (h : farmB N E l = false) : putB N E l xs = false := by simp [putB, h]
theorem put_no2 {N : Int} {E : List Int} {l : List SD} {xs : List LE} {x : LE} (hx : x ∈ xs) (h : fitB l x = false) : putB N E l xs = false := by
  unfold putB
  rw [Bool.and_eq_false_iff]
  exact .inr (List.all_eq_false.2 ⟨x, hx, by simp [h]⟩)
theorem put_yes {N : Int} {E : List Int} {l : List SD} {xs : List LE} (h : farmB N E l = true) (h2 : ∀ x ∈ xs, fitB l x = true) : putB N E l xs = true := by
  unfold putB
  rw [h, List.all_eq_true.2 h2]
  rfl
theorem flat_set_len : ∀ (l : List SD) (i : Nat) (s t : SD), l[i]? = some s → t.2.2.length = s.2.2.length → (flatK (l.set i t)).length = (flatK l).length
  | [], _, _, _, h, _ => by simp at h
  | a :: r, 0, s, t, h, hl => by
    have : a = s := by simpa using h
    subst this
    rw [List.set_cons_zero, flatK_cons, flatK_cons, List.length_append, List.length_append, hl]
  | a :: r, i + 1, s, t, h, hl => by
    rw [List.set_cons_succ, flatK_cons, flatK_cons, List.length_append, List.length_append, flat_set_len r i s t (by simpa using h) hl]
theorem putE_flat (l : List SD) (x : LE) : (flatK (putE l x)).length = (flatK l).length := by
  unfold putE
  split
  · rename_i s hs
    exact flat_set_len l _ s _ hs (by simp)
  · rfl
theorem putL_flat : ∀ (xs : List LE) (l : List SD), (flatK (putL l xs)).length = (flatK l).length
  | [], _ => rfl
  | x :: r, l => by
    show (flatK (putL (putE l x) r)).length = (flatK l).length
    rw [putL_flat r, putE_flat]
theorem fp_few {N : Int} {E : List Int} {l : List SD} {xs : List LE} : (fpE N E l xs).length ≤ 150 ∧ (fpL N E l xs).length + (flatK (fpL N E l xs)).length ≤ 550 := by
  cases h : putB N E l xs with
  | false => obtain ⟨_, e2, e3⟩ := fp_no h; rw [e2, e3]; simp [flatK]
  | true =>
    obtain ⟨_, e2, e3⟩ := fp_yes h
    have h1 : farmB N E l = true := by unfold putB at h; rw [Bool.and_eq_true] at h; exact h.1
    have h2 := farm_few h1
    have h3 := (farm_inds h1).1
    have h4 := farm_len h1
    rw [e2, e3, putL_flat, putL_len]
    omega
end Go.Proofs.Ytpgnappddddlpaa
namespace Go.Proofs.Ytpgnappddddlpaa
open Go.RowKit
set_option linter.unusedVariables false

theorem Try.infoLoc : (Try.prog.info? 42).map (fun i => (i.zero, i.size, i.bytes)) = some (some (.agg #[.int .i64 0, .int .i64 0, .int .i64 0, .int .i64 0, .int .i64 0, .int .i64 0, .int .i64 0]), 7, 56) := by kernel_rfl
/-- A slice of locations in memory. -/
structure SlL (w : World) (A : Option Addr) (n : Nat) (xs : List LE) : Prop where
  len : xs.length = n
  row : Row w 7 A n (xs.flatMap LE.cells)
section
variable {w w' : World} {n c lo e : Nat} {A : Option Addr} {xs : List LE}
theorem SlL.keep (h : SlL w A n xs) (hs : w.heap.size ≤ w'.heap.size) (hk : ∀ i, i < w.heap.size → w'.heap[i]? = w.heap[i]?) : SlL w' A n xs := ⟨h.len, h.row.keep hs hk⟩
theorem SlL.below (h : SlL w A n xs) (hb : Below w.heap.size w w') : SlL w' A n xs := h.keep hb.size hb.block
theorem SlL.nil : SlL w A 0 [] := ⟨rfl, Row.nil⟩
theorem SlL.at_ {j : Nat} (h : SlL w A n xs) (hj : j < n) : ∃ (b off : Nat) (x : LE), A = some ⟨b, off, none⟩ ∧ b < w.heap.size ∧ Hid (xs[j]? = some x) ∧
    w.cell? ⟨b, off + j * 7, none⟩ = some (.int .i64 x.s) ∧ w.cell? ⟨b, off + j * 7 + 1, none⟩ = some (.int .i64 x.p) ∧ w.cell? ⟨b, off + j * 7 + 2, none⟩ = some (.int .i64 x.e.f) ∧ w.cell? ⟨b, off + j * 7 + 3, none⟩ = some (.int .i64 x.e.t) ∧ w.cell? ⟨b, off + j * 7 + 4, none⟩ = some (.int .i64 x.e.w) ∧ w.cell? ⟨b, off + j * 7 + 5, none⟩ = some (.int .i64 x.e.i) ∧ w.cell? ⟨b, off + j * 7 + 6, none⟩ = some (.int .i64 x.e.v) := by
  obtain ⟨b, off, rfl, hb, hc⟩ := h.row.lies (by omega)
  have hl : j < xs.length := by have := h.len; omega
  have he : xs[j]? = some xs[j] := List.getElem?_eq_getElem hl
  refine ⟨b, off, xs[j], rfl, hb, he, ?_, ?_, ?_, ?_, ?_, ?_, ?_⟩
  · exact hc (j * 7) _ (flat_get LE.cells 7 LE.cells_len xs j 0 _ he (by omega))
  · exact hc (j * 7 + 1) _ (flat_get LE.cells 7 LE.cells_len xs j 1 _ he (by omega))
  · exact hc (j * 7 + 2) _ (flat_get LE.cells 7 LE.cells_len xs j 2 _ he (by omega))
  · exact hc (j * 7 + 3) _ (flat_get LE.cells 7 LE.cells_len xs j 3 _ he (by omega))
  · exact hc (j * 7 + 4) _ (flat_get LE.cells 7 LE.cells_len xs j 4 _ he (by omega))
  · exact hc (j * 7 + 5) _ (flat_get LE.cells 7 LE.cells_len xs j 5 _ he (by omega))
  · exact hc (j * 7 + 6) _ (flat_get LE.cells 7 LE.cells_len xs j 6 _ he (by omega))
theorem SlL.of_own (h : w.ownsRow lo e 7 (.slice A n c) n (xs.flatMap LE.cells)) (hl : xs.length = n) : SlL w A n xs := ⟨hl, Row.of_own h⟩
end
/-- Seven cells of one location stored. -/
def lay7 (w : World) (g q : Nat) (e : LE) : World := ((((((w.setCell ⟨g, q, none⟩ (.int .i64 e.s)).setCell ⟨g, q + 1, none⟩ (.int .i64 e.p)).setCell ⟨g, q + 2, none⟩ (.int .i64 e.e.f)).setCell ⟨g, q + 3, none⟩ (.int .i64 e.e.t)).setCell ⟨g, q + 4, none⟩ (.int .i64 e.e.w)).setCell ⟨g, q + 5, none⟩ (.int .i64 e.e.i)).setCell ⟨g, q + 6, none⟩ (.int .i64 e.e.v)
theorem l_lay {w : World} {lo ty g c n k : Nat} {made rest : List LE} {x e : LE} (h : w.ownsRow lo ty 7 (.slice (some ⟨g, 0, none⟩) n c) n ((made ++ x :: rest).flatMap LE.cells)) (hm : made.length = k) :
    (lay7 w g (k * 7) e).ownsRow lo ty 7 (.slice (some ⟨g, 0, none⟩) n c) n ((made ++ e :: rest).flatMap LE.cells) ∧ w.grownBy (lay7 w g (k * 7) e) (some g) := by
  have h1 := h.stored (k * 7) (.int .i64 e.s)
  have h2 := h1.1.stored (k * 7 + 1) (.int .i64 e.p)
  have h3 := h2.1.stored (k * 7 + 2) (.int .i64 e.e.f)
  have h4 := h3.1.stored (k * 7 + 3) (.int .i64 e.e.t)
  have h5 := h4.1.stored (k * 7 + 4) (.int .i64 e.e.w)
  have h6 := h5.1.stored (k * 7 + 5) (.int .i64 e.e.i)
  have h7 := h6.1.stored (k * 7 + 6) (.int .i64 e.e.v)
  have e1 := flat_set LE.cells 7 LE.cells_len (made ++ x :: rest) k 0 x ⟨e.s, x.p, ⟨x.e.f, x.e.t, x.e.w, x.e.i, x.e.v⟩⟩ (.int .i64 e.s) (g_get _ _ _ _ hm) (by omega) rfl
  rw [Nat.add_zero, g_set _ _ _ _ _ hm] at e1
  have e2 := flat_set LE.cells 7 LE.cells_len (made ++ (⟨e.s, x.p, ⟨x.e.f, x.e.t, x.e.w, x.e.i, x.e.v⟩⟩ : LE) :: rest) k 1 (⟨e.s, x.p, ⟨x.e.f, x.e.t, x.e.w, x.e.i, x.e.v⟩⟩ : LE) ⟨e.s, e.p, ⟨x.e.f, x.e.t, x.e.w, x.e.i, x.e.v⟩⟩ (.int .i64 e.p) (g_get _ _ _ _ hm) (by omega) rfl
  rw [g_set _ _ _ _ _ hm] at e2
  have e3 := flat_set LE.cells 7 LE.cells_len (made ++ (⟨e.s, e.p, ⟨x.e.f, x.e.t, x.e.w, x.e.i, x.e.v⟩⟩ : LE) :: rest) k 2 (⟨e.s, e.p, ⟨x.e.f, x.e.t, x.e.w, x.e.i, x.e.v⟩⟩ : LE) ⟨e.s, e.p, ⟨e.e.f, x.e.t, x.e.w, x.e.i, x.e.v⟩⟩ (.int .i64 e.e.f) (g_get _ _ _ _ hm) (by omega) rfl
  rw [g_set _ _ _ _ _ hm] at e3
  have e4 := flat_set LE.cells 7 LE.cells_len (made ++ (⟨e.s, e.p, ⟨e.e.f, x.e.t, x.e.w, x.e.i, x.e.v⟩⟩ : LE) :: rest) k 3 (⟨e.s, e.p, ⟨e.e.f, x.e.t, x.e.w, x.e.i, x.e.v⟩⟩ : LE) ⟨e.s, e.p, ⟨e.e.f, e.e.t, x.e.w, x.e.i, x.e.v⟩⟩ (.int .i64 e.e.t) (g_get _ _ _ _ hm) (by omega) rfl
  rw [g_set _ _ _ _ _ hm] at e4
  have e5 := flat_set LE.cells 7 LE.cells_len (made ++ (⟨e.s, e.p, ⟨e.e.f, e.e.t, x.e.w, x.e.i, x.e.v⟩⟩ : LE) :: rest) k 4 (⟨e.s, e.p, ⟨e.e.f, e.e.t, x.e.w, x.e.i, x.e.v⟩⟩ : LE) ⟨e.s, e.p, ⟨e.e.f, e.e.t, e.e.w, x.e.i, x.e.v⟩⟩ (.int .i64 e.e.w) (g_get _ _ _ _ hm) (by omega) rfl
  rw [g_set _ _ _ _ _ hm] at e5
  have e6 := flat_set LE.cells 7 LE.cells_len (made ++ (⟨e.s, e.p, ⟨e.e.f, e.e.t, e.e.w, x.e.i, x.e.v⟩⟩ : LE) :: rest) k 5 (⟨e.s, e.p, ⟨e.e.f, e.e.t, e.e.w, x.e.i, x.e.v⟩⟩ : LE) ⟨e.s, e.p, ⟨e.e.f, e.e.t, e.e.w, e.e.i, x.e.v⟩⟩ (.int .i64 e.e.i) (g_get _ _ _ _ hm) (by omega) rfl
  rw [g_set _ _ _ _ _ hm] at e6
  have e7 := flat_set LE.cells 7 LE.cells_len (made ++ (⟨e.s, e.p, ⟨e.e.f, e.e.t, e.e.w, e.e.i, x.e.v⟩⟩ : LE) :: rest) k 6 (⟨e.s, e.p, ⟨e.e.f, e.e.t, e.e.w, e.e.i, x.e.v⟩⟩ : LE) e (.int .i64 e.e.v) (g_get _ _ _ _ hm) (by omega) rfl
  rw [g_set _ _ _ _ _ hm] at e7
  rw [e1, e2, e3, e4, e5, e6, e7] at h7
  exact ⟨h7.1, ((((((h1.2).trans h2.2).trans h3.2).trans h4.2).trans h5.2).trans h6.2).trans h7.2⟩
def zero7 : LE := ⟨0, 0, ⟨0, 0, 0, 0, 0⟩⟩
theorem rep7_succ (n k : Nat) (h : k < n) : List.replicate (n - k) zero7 = zero7 :: List.replicate (n - (k + 1)) zero7 := by
  rw [show n - k = (n - (k + 1)) + 1 by omega, List.replicate_succ]
/-! ### marks -/
def mkL (k : Nat) : LE := ⟨(k : Int), (k : Int) + 1, ⟨(k : Int) + 2, (k : Int) + 3, (k : Int) + 4, (k : Int) + 5, (k : Int) + 6⟩⟩
def mark7 (k : Nat) : List LE → List LE
  | [] => []
  | _ :: r => mkL k :: mark7 (k + 7) r
theorem mark7_len : ∀ (es : List LE) (k : Nat), (mark7 k es).length = es.length
  | [], _ => rfl
  | _ :: r, k => by rw [mark7, List.length_cons, mark7_len r, List.length_cons]
theorem mark7_snoc : ∀ (es : List LE) (k : Nat) (e : LE), mark7 k (es ++ [e]) = mark7 k es ++ [mkL (k + 7 * es.length)]
  | [], k, _ => by simp [mark7]
  | _ :: r, k, e => by
    rw [List.cons_append, mark7, mark7_snoc r (k + 7) e, mark7, List.cons_append, List.length_cons, show k + 7 + 7 * r.length = k + 7 * (r.length + 1) by omega]
theorem mark7_get : ∀ (es : List LE) (k j : Nat), j < es.length → (mark7 k es)[j]? = some (mkL (k + 7 * j))
  | [], _, j, h => by simp at h
  | _ :: r, k, 0, _ => by simp [mark7]
  | _ :: r, k, j + 1, h => by
    rw [mark7, List.getElem?_cons_succ, mark7_get r (k + 7) j (by simpa using h), show k + 7 + 7 * j = k + 7 * (j + 1) by omega]
/-! ### subs -/
structure UOwn (w : World) (lo l h : Nat) (A : Option Addr) (n c : Nat) (xs : List LE) : Prop where
  e : w.ownsRow lo 42 7 (.slice A n c) n (xs.flatMap LE.cells)
  r : ∀ g, (Value.slice A n c).ownBlock = some g → l ≤ g ∧ g < h
section
variable {w w' : World} {lo l h l1 h1 n c : Nat} {A : Option Addr} {xs : List LE}
theorem UOwn.of (ho : w.ownsRow lo 42 7 (.slice A n c) n (xs.flatMap LE.cells)) : UOwn w lo lo w.heap.size A n c xs := ⟨ho, ho.lt⟩
theorem UOwn.below (k : UOwn w lo l h A n c xs) (hb : Below w.heap.size w w') : UOwn w' lo l h A n c xs := ⟨own_below k.e hb, k.r⟩
theorem UOwn.wr (hw : Wr l1 h1 w w') (k : UOwn w lo l h A n c xs) (hd : h ≤ l1 ∨ h1 ≤ l) : UOwn w' lo l h A n c xs := ⟨hw.own k.e k.r hd, k.r⟩
end
def UMk (w : World) (k : Nat) (A : Option Addr) (n : Nat) : Prop := ∃ xs, SlL w A n (mark7 k xs)
theorem UMk.below {w w' : World} {k n : Nat} {A : Option Addr} (h : UMk w k A n) (hb : Below w.heap.size w w') : UMk w' k A n := by
  obtain ⟨xs, h⟩ := h
  exact ⟨xs, h.below hb⟩
def MadeLs (w : World) (xs : List LE) (e : Ending) (w' : World) : Prop :=
  ∃ A c, e = .returned (.slice A xs.length c) ∧ w'.ownsRow w.heap.size 42 7 (.slice A xs.length c) xs.length (xs.flatMap LE.cells) ∧ Below w.heap.size w w'
def MadeU (w : World) (p lo hi r : Int) (xs : List LE) (e : Ending) (w' : World) : Prop :=
  ∃ A c, e = .returned (.agg #[.int .i64 p, .int .i64 lo, .int .i64 hi, .slice A xs.length c, .int .i64 r]) ∧ w'.ownsRow w.heap.size 42 7 (.slice A xs.length c) xs.length (xs.flatMap LE.cells) ∧ Below w.heap.size w w'
def MadeUB (w : World) (p lo hi r : Int) (xs : List LE) (b : Bool) (e : Ending) (w' : World) : Prop :=
  ∃ A c, e = .returned (.tuple #[.agg #[.int .i64 p, .int .i64 lo, .int .i64 hi, .slice A xs.length c, .int .i64 r], .bool b]) ∧ w'.ownsRow w.heap.size 42 7 (.slice A xs.length c) xs.length (xs.flatMap LE.cells) ∧ Below w.heap.size w w'
end Go.Proofs.Ytpgnappddddlpaa
