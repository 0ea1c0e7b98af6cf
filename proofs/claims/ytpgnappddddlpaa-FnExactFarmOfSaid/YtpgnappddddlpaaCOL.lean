/- The contracts of the model's and of the program's SortAll. Condition: at most 2^20 records. // How often a record stands in a list (plain mathematics; no condition). // A block of two writable cells, what grows while one block is written, a new record that reads (plain lemmas over the model; no condition). // The contract of the program's function that lays an empty shard for every interval: a loop over its iterator whose body appends. Condition: at most 2^20 ends. // Words for dealing out: new shards, new records that read (plain lemmas over the model; no condition). // The contract of the program's test for a number. // The contracts of the program's functions that ask whether a shard is valid. Condition: at most 2^20 edges. -/
import Derived.Test.YtpgnappddddlpaaCOI
import Derived.Test.YtpgnappddddlpaaKBatI
import Derived.Test.YtpgnappddddlpaaCOK
import Derived.Test.YtpgnappddddlpaaKMergeI
import Derived.Test.YtpgnappddddlpaaCOJ
import Derived.Test.YtpgnappddddlpaaCOQ
import Derived.Test.YtpgnappddddlpaaCOA
import Derived.Test.YtpgnappddddlpaaCOG
import Derived.Test.YtpgnappddddlpaaCOH
import Derived.Test.YtpgnappddddlpaaCOB
import Derived.Maps.OwnIn
import Derived.Test.YtpgnappddddlpaaCOP
namespace Go.Proofs.Ytpgnappddddlpaa
open Go.RowKit

set_option maxRecDepth 10000 in
set_option maxHeartbeats 400000 in
theorem specSortAll (A : Option Addr) (n c : Nat) (es : List GE) (b : Int) (w : World) (hr : SlG w A n es) (hn : n ≤ 1048576) (hc : n ≤ c) :
    Calls Try.prog 119 #[.slice A n c, .int .i64 b] w (MadeRc w (mergeAll (batchesZ b es))) := by
  have C := Lib.hid (specBatches A n c es b w hr hn hc)
  have h1 := batchesZ_len b es
  have h2 := batchesZ_total b es
  rw [hr.len] at h1 h2
  have HX1 := Lib.hid (Nat.le_trans h1 hn)
  have HX2 := Lib.hid (Nat.le_trans h2 hn)
  clear hr h1 h2
  go_enter Try.func119, Try.ntmps119
  go_wp2_with fail
  refine C.out.mono ?_
  rintro e w1 ⟨A1, n1, c1, b1, rfl, ho, hx, hb1⟩
  have S := Lib.hid (ho.small hx HX1.out HX2.out)
  have D1 := Lib.hid ho.sl
  have K1 := Lib.hid (bat_cap ho.row)
  have HX := Lib.hid hx
  have HB := Lib.hid hb1
  have hk : n1 ≤ 1048576 := S.out.c
  have ht : totalR (b1.map BE.es) ≤ 1048576 := by rw [hx]; exact HX2.out
  have CM := Lib.hid (specMerge A1 n1 c1 b1 w1 D1.out hk ht)
  rw [hx] at CM
  clear ho hx hb1 ht
  go_wp2_with fail
  refine CM.out.mono ?_
  rintro e w2 ⟨A2, c2, rfl, ho2, hb2⟩
  have HB2 := HB.out.size
  go_wp2
  go_ret
  exact ⟨A2, c2, rfl, own_monoG ho2 HB2, g_chain HB.out hb2⟩
set_option maxRecDepth 10000 in
set_option maxHeartbeats 400000 in
theorem implSortAll (A : Option Addr) (n c : Nat) (es : List GE) (b : Int) (w : World) (hr : SlG w A n es) (hn : n ≤ 1048576) (hc : n ≤ c) (hb : b ≤ 9223372036854775807) :
    Calls Try.prog 126 #[.slice A n c, .int .i64 b] w (MadeRc w (mergeAll (batchesZ b es))) := by
  have C := Lib.hid (implBatches A n c es b w hr hn hc hb)
  have h1 := batchesZ_len b es
  have h2 := batchesZ_total b es
  rw [hr.len] at h1 h2
  have HX1 := Lib.hid (Nat.le_trans h1 hn)
  have HX2 := Lib.hid (Nat.le_trans h2 hn)
  clear hr h1 h2
  go_enter Try.func126, Try.ntmps126
  go_wp2_with fail
  refine C.out.mono ?_
  rintro e w1 ⟨A1, n1, c1, b1, rfl, ho, hx, hb1⟩
  have S := Lib.hid (ho.small hx HX1.out HX2.out)
  have D1 := Lib.hid ho.sl
  have K1 := Lib.hid (bat_cap ho.row)
  have HX := Lib.hid hx
  have HB := Lib.hid hb1
  have hk : n1 ≤ 1048576 := S.out.c
  have ht : totalR (b1.map BE.es) ≤ 1048576 := by rw [hx]; exact HX2.out
  have CM := Lib.hid (implMerge A1 n1 c1 b1 w1 D1.out K1.out hk ht)
  rw [hx] at CM
  clear ho hx hb1 ht
  go_wp2_with fail
  refine CM.out.mono ?_
  rintro e w2 ⟨A2, c2, rfl, ho2, hb2⟩
  have HB2 := HB.out.size
  go_wp2
  go_ret
  exact ⟨A2, c2, rfl, own_monoG ho2 HB2, g_chain HB.out hb2⟩
end Go.Proofs.Ytpgnappddddlpaa
namespace Go.Proofs.Ytpgnappddddlpaa

noncomputable def cntR (x : GE) (l : List GE) : Nat := (l.filter fun y => @decide (x = y) (Classical.propDecidable _)).length
theorem cntR_perm {x : GE} {l m : List GE} (h : l.Perm m) : cntR x l = cntR x m := (h.filter _).length_eq
theorem cntR_le (x : GE) (l : List GE) : cntR x l ≤ l.length := List.length_filter_le _ _
theorem cntR_yes {x : GE} {l : List GE} {j : Nat} (h : l[j]? = some x) : cntR x (l.take (j + 1)) = cntR x (l.take j) + 1 := by
  unfold cntR
  rw [List.take_add_one, h, List.filter_append, List.length_append]
  simp
theorem cntR_no {x y : GE} {l : List GE} {j : Nat} (h : l[j]? = some y) (hn : x ≠ y) : cntR x (l.take (j + 1)) = cntR x (l.take j) := by
  unfold cntR
  rw [List.take_add_one, h, List.filter_append, List.length_append]
  simp [hn]
theorem cntR_zero (x : GE) (l : List GE) : cntR x (l.take 0) = 0 := by simp [cntR]
theorem GE.ne_of {x y : GE} (h : x ≠ y) : (x.f == y.f) = false ∨ (x.t == y.t) = false ∨ (x.w == y.w) = false := by
  obtain ⟨a, b, c⟩ := x
  obtain ⟨a', b', c'⟩ := y
  by_cases h1 : a = a'
  · by_cases h2 : b = b'
    · by_cases h3 : c = c'
      · subst h1
        subst h2
        subst h3
        exact absurd rfl h
      · exact .inr (.inr (by simpa using h3))
    · exact .inr (.inl (by simpa using h2))
  · exact .inl (by simpa using h1)
theorem merge_batches {b : Int} (hb : 1 ≤ b) (es : List GE) : mergeAll (batchesZ b es) = sortR es := by
  rw [batchesZ_yes hb]
  unfold mergeAll
  exact sortAll_is (by omega) (by rw [total_batches (by omega)]; exact Nat.le_refl _)
end Go.Proofs.Ytpgnappddddlpaa
namespace Go.Proofs.Ytpgnappddddlpaa
open Go.RowKit

theorem grown_up {a b c : World} {row r2 : Option Nat} (h : a.grownBy b row) (k : b.grownBy c r2) (hr : ∀ j, r2 = some j → a.heap.size ≤ j) : a.grownBy c row :=
  ⟨k.os.trans h.os, k.tape.trans h.tape, k.output.trans h.output, Nat.le_trans h.size k.size, fun i hi hn => (k.block i (Nat.lt_of_lt_of_le hi h.size) (fun e => by have := hr i e.symm; omega)).trans (h.block i hi hn)⟩
theorem grown_below {a b c : World} {row : Option Nat} (h : a.grownBy b row) (k : Below b.heap.size b c) : a.grownBy c row := grownBy_trans h (grownBy_of_below k row)
theorem grown_set {a b : World} {g i : Nat} (h : a.grownBy b (some g)) (u : Value) : a.grownBy (b.setCell ⟨g, i, none⟩ u) (some g) :=
  ⟨h.os, h.tape, h.output, by simpa using h.size, fun j hj hn => (Below.heap_setCell b ⟨g, i, none⟩ u j (fun e => hn (by rw [e]))).trans (h.block j hj hn)⟩
theorem grown_drew {a b : World} {row : Option Nat} (h : a.grownBy b row) : a.grownBy b.drew row := ⟨h.os, h.tape, h.output, h.size, h.block⟩

/-- A block of two cells that may be written. -/
structure DBox (w : World) (b : Nat) (v0 v1 : Value) : Prop where
  lt : b < w.heap.size
  c0 : w.cell? ⟨b, 0, none⟩ = some v0
  c1 : w.cell? ⟨b, 1, none⟩ = some v1
  f : ∀ i, w.frozen? ⟨b, i, none⟩ = false
section
variable {w w' : World} {b : Nat} {v0 v1 : Value}
theorem DBox.keep (h : DBox w b v0 v1) (hs : w.heap.size ≤ w'.heap.size) (hk : w'.heap[b]? = w.heap[b]?) : DBox w' b v0 v1 :=
  ⟨Nat.lt_of_lt_of_le h.lt hs, (World.cell?_of_block (a := ⟨b, 0, none⟩) hk).trans h.c0, (World.cell?_of_block (a := ⟨b, 1, none⟩) hk).trans h.c1, fun i => (World.frozen?_of_block (a := ⟨b, i, none⟩) hk).trans (h.f i)⟩
theorem DBox.below (h : DBox w b v0 v1) (hb : Below w.heap.size w w') : DBox w' b v0 v1 := h.keep hb.size (hb.block b h.lt)
theorem DBox.grown {row : Option Nat} (h : DBox w b v0 v1) (hg : w.grownBy w' row) (hr : row ≠ some b) : DBox w' b v0 v1 := h.keep hg.size (hg.block b h.lt (fun e => hr e.symm))
theorem DBox.new (w : World) (v0 v1 : Value) (t : TypeId) : DBox (w.alloc (.cells #[v0, v1] t)) w.heap.size v0 v1 := ⟨by simp, by simp, by simp, fun i => by simp⟩
theorem DBox.alloc (h : DBox w b v0 v1) (o : Obj) : DBox (w.alloc o) b v0 v1 := h.below (below_a1 w o)
theorem DBox.drew (h : DBox w b v0 v1) : DBox w.drew b v0 v1 := ⟨h.lt, h.c0, h.c1, h.f⟩
theorem DBox.far (h : DBox w b v0 v1) {p : Addr} (hp : b ≠ p.block) (u : Value) : DBox (w.setCell p u) b v0 v1 := h.keep (by simp) (Below.heap_setCell w p u b hp)
theorem DBox.set1 (h : DBox w b v0 v1) (u : Value) : DBox (w.setCell ⟨b, 1, none⟩ u) b v0 u :=
  ⟨by simpa using h.lt, by rw [World.cell?_setCell_other _ _ _ _ (by simp)]; exact h.c0, World.cell?_setCell_same' _ _ _ (by rw [h.c1]; rfl), fun i => by simpa using h.f i⟩
end

theorem three_reads (w : World) (a b c : Int) (t : TypeId) (g : Nat) (hg : g = w.heap.size) : Reads (w.alloc (.cells #[.int .i64 a, .int .i64 b, .int .i64 c] t)) (g + 1) 3 (some ⟨g, 0, none⟩) 1 [.int .i64 a, .int .i64 b, .int .i64 c] := by
  subst hg
  refine ⟨rfl, fun _ => ⟨_, rfl, by simp, fun j x hj => ?_⟩⟩
  match j, hj with
  | 0, hj => simp at hj; subst hj; simp [Addr.add]
  | 1, hj => simp at hj; subst hj; simp [Addr.add]
  | 2, hj => simp at hj; subst hj; simp [Addr.add]
theorem own_formG {w : World} {base e size n : Nat} {v : Value} {xs : List Value} (h : w.ownsRow base e size v n xs) : ∃ A c, v = .slice A n c ∧ n ≤ c := by
  rcases h.2 with ⟨rfl, rfl⟩ | ⟨g, cap, _, rfl, _, _, hc, _⟩
  · exact ⟨_, _, rfl, Nat.le_refl _⟩
  · exact ⟨_, _, rfl, hc⟩
end Go.Proofs.Ytpgnappddddlpaa
namespace Go.Proofs.Ytpgnappddddlpaa
open Go.RowKit Go.Shelf
attribute [local go_sem] Oper.semAt_some

def emptyHs (ps : List (Int × Int)) : List HE := ps.map fun x => ⟨x.1, x.2, none, 0, 0, []⟩
theorem emptyHs_len (ps : List (Int × Int)) : (emptyHs ps).length = ps.length := by simp [emptyHs]
theorem emptyHs_own (w : World) (lo : Nat) (ps : List (Int × Int)) : OwnHL w lo (emptyHs ps) := by
  have h : ∀ d ∈ emptyHs ps, ∃ x : Int × Int, d = ⟨x.1, x.2, none, 0, 0, []⟩ := fun d hd => by
    obtain ⟨x, _, rfl⟩ := List.mem_map.1 hd
    exact ⟨x, rfl⟩
  refine ⟨fun d hd => ?_, fun d hd => ?_, ?_⟩
  · obtain ⟨x, rfl⟩ := h d hd
    exact World.ownsRow_nil _ _ _ _
  · obtain ⟨x, rfl⟩ := h d hd
    rfl
  · refine List.pairwise_iff_forall_sublist.2 fun {a b} hs => ?_
    obtain ⟨x, rfl⟩ := h a (hs.subset (by simp))
    exact .inl rfl
theorem emptyHs_sd (ps : List (Int × Int)) : (emptyHs ps).map HE.sd = ps.map (fun x => (x.1, x.2, [])) := by
  unfold emptyHs
  rw [List.map_map]
  rfl
theorem he_cells_new (w : World) (lo hi : Int) (t : TypeId) : ∀ j u, (HE.cells ⟨lo, hi, none, 0, 0, []⟩)[j]? = some u → (w.alloc (.cells #[.int .i64 lo, .int .i64 hi, .slice none 0 0] t)).cell? ((⟨w.heap.size, 0, none⟩ : Addr).add j) = some u := fun j u hj => by
  match j, hj with
  | 0, hj => simp [HE.cells] at hj; subst hj; simp [Addr.add]
  | 1, hj => simp [HE.cells] at hj; subst hj; simp [Addr.add]
  | 2, hj => simp [HE.cells] at hj; subst hj; simp [Addr.add]
/-- New shards without edges. -/
def MadeEm (w : World) (ps : List (Int × Int)) (e : Ending) (w' : World) : Prop :=
  ∃ A c, e = .returned (.slice A ps.length c) ∧ w'.ownsRow w.heap.size 85 3 (.slice A ps.length c) ps.length ((emptyHs ps).flatMap HE.cells) ∧ Below w.heap.size w w'
def EInv (w : World) (pre : List (Int × Int)) (W : World) : Prop :=
  (∃ A' c', Boxed W w.heap.size 24 (.slice A' pre.length c') ∧ W.ownsRow (w.heap.size + 2) 85 3 (.slice A' pre.length c') pre.length ((emptyHs pre).flatMap HE.cells) ∧ w.heap.size + 2 ≤ W.heap.size) ∧ Below w.heap.size w W

set_option maxRecDepth 100000 in
set_option maxHeartbeats 4000000 in
theorem implEmpty_in (A : Option Addr) (n c : Nat) (es : List Int) (w : World) (hI : SlI w A n es) (hn : n ≤ 1048576) :
    CallsIn Fence.wide 3 Try.prog 125 #[.slice A n c] w (MadeEm w (pairsE 0 es)) := by
  obtain ⟨i0, hi, hz0, hz1, hz2⟩ := info_parts Try.infoShard
  have HL := Lib.hid hI.len
  have HI := Lib.hid hI
  clear hI
  refine callsIn_of_wp_marks Try.func125 rfl trivial ?_ rfl
  simp only [Try.ntmps125, List.size_toArray, List.length_cons, List.length_nil, Nat.reduceAdd, Nat.reduceSub, Array.replicate_succ, Array.replicate_zero, List.push_toArray, List.append_toArray, List.nil_append, List.cons_append]
  gi_wp2
  refine ⟨trivial, (spans_in Fence.wide 2 trivial rfl _ _ _ _).mono ?_⟩
  rintro e w' ⟨rfl, rfl⟩
  gi_wp2
  have bO := (Boxed.new w 24 (.slice none 0 0)).alloc (.cells #[.slice A n c] 23)
  have bN := Boxed.new (w.alloc (.cells #[.slice none 0 0] 24)) 23 (.slice A n c)
  rw [World.size_alloc] at bN
  have hB0 : Below w.heap.size w ((w.alloc (.cells #[.slice none 0 0] 24)).alloc (.cells #[.slice A n c] 23)) := below_a2 _ _ _
  have hsz : ((w.alloc (.cells #[.slice none 0 0] 24)).alloc (.cells #[.slice A n c] 23)).heap.size = w.heap.size + 2 := by simp
  generalize ((w.alloc (.cells #[.slice none 0 0] 24)).alloc (.cells #[.slice A n c] 23)) = w0 at bO bN hB0 hsz ⊢
  refine wpIn_rangeFunc_ownG rfl (by omega) (gf := 163) (lb := #[.pointer (some ⟨w.heap.size + 1, 0, none⟩)]) rfl trivial (enters_of Try.func163 (by kernel_rfl) rfl)
    (spans_stops id (pairsE 0 es) Fence.wide 2 trivial rfl (by omega) (w.heap.size + 1) A n c es (List.map_id _) w HI.out hn _ hB0 (by omega) bN.cell) belowK_t (belowK_b (by omega)) (Below.refl _ _) (fun _ => rfl)
    (EInv w) (fun _ _ _ => False)
    (OwnFrom.and (Own.from (fun s A B row hs hg hr => by obtain ⟨A', c', h1, h2, h3⟩ := hs; exact ⟨A', c', box_own h1 hg hr, h2.kept hg (own_ne h2 hr), Nat.le_trans h3 hg.size⟩) _) (ownFrom_below (Nat.le_refl _) (by omega)))
    (fun _ _ _ _ _ hs _ _ => hs)
    ⟨⟨none, 0, bO, World.ownsRow_nil _ _ _ _, by omega⟩, hB0⟩
    (fun x => { tmps := #[.slice A n c, undef, .slice none 0 0, .pointer (some ⟨w.heap.size, 0, none⟩), .int .i64 x.1, .int .i64 x.2, .slice A n c, .func (.func 163) #[] #[.pointer (some ⟨w.heap.size + 1, 0, none⟩)], .int .i64 x.1, .int .i64 x.2, undef, undef, undef, undef, undef, undef, undef], defers := [] }) ?assign ?body ?done ?stop
  case assign =>
    intro l x W K hK
    gi_wp2
    exact hK
  case body =>
    rintro l pre ⟨lo, hi2⟩ W ⟨⟨A', c', hv, hrow, hsW⟩, hB⟩ hlt
    have hc := hv.cell
    gi_wp2_with (gi_at_builtin; refine wpListIn_append_own _ rfl (.tmp 10) (.tmp 14) 24 rfl (w.heap.size + 2) 85 i0 _ 3 40 Try.underlying24 hi hz0 hz1 hz2 rfl (by omega) _ _ _ rfl (hrow.alloc _) ⟨W.heap.size, 0, none⟩ 1 1 (HE.cells ⟨lo, hi2, none, 0, 0, []⟩) rfl rfl (he_cells_new _ _ _ _) (HE.cells_one _) (by simp only [maxLen]; omega) (by omega) (by simp; omega) ?_; intro v3 w3 hown3 hg3 hat3; obtain ⟨P3, cc3, rfl⟩ := rec_form hown3; obtain ⟨hv3, hv4, hr4, hk4, hb4⟩ := hv.appended (by decide) (own_monoG hrow (by omega)) (by omega) (Nat.le_refl _) (own_monoG hown3 (by omega : w.heap.size ≤ w.heap.size + 2)) hg3; have hc4 := hv3.cell; have hf4 := hv3.frozen)
    have hpl : (pre ++ [(lo, hi2)]).length = pre.length + 1 := by simp
    have hs3 := hg3.size
    refine ⟨KeepsOthers.from hk4 _, hb4, ⟨P3, cc3, ?_, ?_, ?_⟩, hB.trans hb4⟩
    · rw [hpl]; exact hv4
    · rw [hpl]
      unfold emptyHs
      rw [List.map_append, List.flatMap_append]
      simpa [emptyHs] using own_lowG hown3 (p := ⟨w.heap.size, 0, none⟩) (by show w.heap.size < w.heap.size + 2; omega) _
    · simp at hs3 ⊢; omega
  case done =>
    rintro D ys W hD rfl ⟨⟨A', c', hv, hrow, hsW⟩, hB⟩ hK
    have hc := hv.cell
    gi_wp2
    refine ⟨by simp, .inl ⟨_, _, rfl, run_takeDeferred hK, ?_⟩⟩
    exact ⟨_, results_tmp rfl _ _ _, A', c', rfl, own_monoG (hrow.kept (grownBy_putObj' W D (.deferred none)) (own_ne hrow (fun r e => by cases e; exact ⟨_, hK, rfl⟩))) (by omega), hB.trans (belowK_b (w := w) (Nat.le_refl _) W D _ _ (by omega) hK rfl rfl)⟩
  case stop =>
    rintro D c pre W _ _ h _
    exact h.elim
theorem implEmpty (A : Option Addr) (n c : Nat) (es : List Int) (w : World) (hI : SlI w A n es) (hn : n ≤ 1048576) :
    Calls Try.prog 125 #[.slice A n c] w (MadeEm w (pairsE 0 es)) :=
  callsIn_wide.1 (implEmpty_in A n c es w hI hn)
end Go.Proofs.Ytpgnappddddlpaa
namespace Go.Proofs.Ytpgnappddddlpaa
open Go.RowKit

theorem he_built (w : World) : (w.alloc (.cells #[] 85)).ownsRow w.heap.size 85 3 (.slice (some ⟨w.heap.size, 0, none⟩) 0 0) 0 [] :=
  World.ownsRow_lit w #[] 0 (Nat.le_refl _) (by unfold maxLen; omega) rfl
theorem five_reads (w : World) (e : KE) (t : TypeId) (g : Nat) (hg : g = w.heap.size) : Reads (w.alloc (.cells #[.int .i64 e.f, .int .i64 e.t, .int .i64 e.w, .int .i64 e.i, .int .i64 e.v] t)) (g + 1) 5 (some ⟨g, 0, none⟩) 1 (KE.cells e) := by
  subst hg
  refine ⟨rfl, fun _ => ⟨_, rfl, by simp, fun j x hj => ?_⟩⟩
  match j, hj with
  | 0, hj => simp [KE.cells] at hj; subst hj; simp [Addr.add]
  | 1, hj => simp [KE.cells] at hj; subst hj; simp [Addr.add]
  | 2, hj => simp [KE.cells] at hj; subst hj; simp [Addr.add]
  | 3, hj => simp [KE.cells] at hj; subst hj; simp [Addr.add]
  | 4, hj => simp [KE.cells] at hj; subst hj; simp [Addr.add]
theorem he_reads (w : World) (e : HE) (t : TypeId) (g : Nat) (hg : g = w.heap.size) : Reads (w.alloc (.cells #[.int .i64 e.lo, .int .i64 e.hi, .slice e.A e.n e.c] t)) (g + 1) 3 (some ⟨g, 0, none⟩) 1 (HE.cells e) := by
  subst hg
  refine ⟨rfl, fun _ => ⟨_, rfl, by simp, fun j x hj => ?_⟩⟩
  match j, hj with
  | 0, hj => simp [HE.cells] at hj; subst hj; simp [Addr.add]
  | 1, hj => simp [HE.cells] at hj; subst hj; simp [Addr.add]
  | 2, hj => simp [HE.cells] at hj; subst hj; simp [Addr.add]
/-- No shards. -/
theorem hs_none (w w' : World) (h : Below w.heap.size w w') : MadeHs w [] (.returned (.slice none 0 0)) w' := ⟨none, 0, 0, [], rfl, ⟨World.ownsRow_nil _ _ _ _, rfl, OwnHL.nil⟩, rfl, h⟩

end Go.Proofs.Ytpgnappddddlpaa
namespace Go.Proofs.Ytpgnappddddlpaa
open Go.RowKit

theorem implNum_yes (n : Int) (w : World) (h0 : 0 ≤ n) (h1 : n ≤ 281474976710655) : Calls Try.prog 107 #[.int .i64 n] w fun e w' => e = .returned (.bool true) ∧ w = w' := by
  go_enter Try.func107, Try.ntmps107
  go_wp2
  go_ret
  exact ⟨rfl, rfl⟩

theorem implNum_no (n : Int) (w : World) (h : n < 0 ∨ 281474976710655 < n) : Calls Try.prog 107 #[.int .i64 n] w fun e w' => e = .returned (.bool false) ∧ w = w' := by
  rcases h with h | h
  · go_enter Try.func107, Try.ntmps107
    go_wp2
    go_ret
    exact ⟨rfl, rfl⟩
  · have h0 : 0 ≤ n := by omega
    have h2 : decide (n ≤ 281474976710655) = false := by simpa using h
    go_enter Try.func107, Try.ntmps107
    go_wp2
    go_ret
    exact ⟨rfl, rfl⟩
end Go.Proofs.Ytpgnappddddlpaa
namespace Go.Proofs.Ytpgnappddddlpaa
open Go.RowKit

theorem place_any (a b c : Int) (w : World) :
    Calls Try.prog 123 #[.int .i64 a, .int .i64 b, .int .i64 c] w fun e w' => e = .returned (.agg #[.int .i64 a, .int .i64 b, .int .i64 c]) ∧ Below w.heap.size w w' := by
  go_enter Try.func123, Try.ntmps123
  go_wp2
  refine bodyPost_ret (v := .agg #[.int .i64 a, .int .i64 b, .int .i64 c]) (by simp [results, Try.results123, go_sem]) rfl ⟨rfl, ?_⟩
  repeat (first | exact below_a1 _ _ | exact below_a2 _ _ _ | exact below_a3 _ _ _ _ | refine Below.setCell ?_ (by simp <;> omega) _)
theorem implEdge5Ok (lo hi : Int) (e : KE) (w : World) :
    Calls Try.prog 144 #[.agg #[.int .i64 e.f, .int .i64 e.t, .int .i64 e.w, .int .i64 e.i, .int .i64 e.v], .int .i64 lo, .int .i64 hi] w (GTell w (kedgeB lo hi e)) := by
  have HB := Lib.hid (below_a1 w (.cells #[.int .i64 e.f, .int .i64 e.t, .int .i64 e.w, .int .i64 e.i, .int .i64 e.v] 40))
  cases hv : kedgeB lo hi e with
  | true =>
    obtain ⟨h1, h2, h3, h4, h5, h6, h7, h8, h9, h10⟩ := kedgeB_iff hv
    clear hv
    go_enter Try.func144, Try.ntmps144
    go_wp2_with (go_at_call 107; refine (implNum_yes _ _ h9 h10).mono ?_; rintro e w' ⟨rfl, rfl⟩)
    go_ret
    exact ⟨rfl, HB.out⟩
  | false =>
    have hp := kedgeB_parts hv
    clear hv
    rcases hp with h1 | ⟨h1, h2⟩ | ⟨h1, h2, h3⟩ | ⟨h1, h2, h3, h4⟩ | ⟨h1, h2, h3, h4, h5⟩ | ⟨h1, h2, h3, h4, h5, h6⟩ | ⟨h1, h2, h3, h4, h5, h6, h7⟩ | ⟨h1, h2, h3, h4, h5, h6, h7, h8⟩ | ⟨h1, h2, h3, h4, h5, h6, h7, h8, h9⟩
    case inr.inr.inr.inr.inr.inr.inr.inr =>
      have h10 : e.v < 0 ∨ 281474976710655 < e.v := by omega
      clear h9
      go_enter Try.func144, Try.ntmps144
      go_wp2_with (go_at_call 107; refine (implNum_no _ _ h10).mono ?_; rintro e w' ⟨rfl, rfl⟩)
      go_ret
      exact ⟨rfl, HB.out⟩
    all_goals
      go_enter Try.func144, Try.ntmps144
      go_wp2
      go_ret
      exact ⟨g_bool (by first | rfl | (simp <;> omega)), HB.out⟩
theorem after_less (p q : Int) (e : KE) : lessR ⟨0, p, q⟩ ⟨0, e.f, e.i⟩ = afterB p q e := by
  rw [Bool.eq_iff_iff, lessR_iff]
  unfold afterB
  rw [decide_eq_true_iff]
  show ((0 : Int) < 0 ∨ ((0 : Int) = 0 ∧ (p < e.f ∨ (p = e.f ∧ q < e.i)))) ↔ _
  constructor
  · rintro (h | ⟨_, h⟩)
    · omega
    · exact h
  · exact fun h => .inr ⟨rfl, h⟩

set_option maxRecDepth 10000 in
set_option maxHeartbeats 4000000 in
theorem implShardOk (lo hi : Int) (A : Option Addr) (n c : Nat) (es : List KE) (w : World) (hr : SlK w A n es) (hn : n ≤ 1048576) :
    Calls Try.prog 106 #[.agg #[.int .i64 lo, .int .i64 hi, .slice A n c]] w (GTell w (shardB lo hi es)) := by
  have hel := hr.len
  have HB0 := Lib.hid (below_a1 w (.cells #[.int .i64 lo, .int .i64 hi, .slice A n c] 85))
  by_cases h1 : 0 ≤ lo
  · by_cases h2 : lo < hi
    · by_cases h3 : hi ≤ 150
      · by_cases h4 : n ≤ 400
        · rw [shardB_yes h1 h2 h3 (by omega)]
          have CE := Lib.hid (fun e W => implEdge5Ok lo hi e W)
          have CP := Lib.hid (fun b c W => place_any 0 b c W)
          have CL := Lib.hid (fun p q (e : KE) W => after_less p q e ▸ implLess ⟨0, p, q⟩ ⟨0, e.f, e.i⟩ W)
          have HR := Lib.hid hr
          have HEL := Lib.hid hel
          clear hr hel
          go_enter Try.func106, Try.ntmps106
          go_wp2_with fail
          refine (CP.out (-1) 0 _).mono ?_
          rintro e wp ⟨rfl, hbp⟩
          have XP := Lib.hid ((HBox.new w lo hi A n c 85).below hbp)
          have HBP := Lib.hid (g_chain HB0.out hbp)
          have LB0 := Lib.hid (Blk.new wp #[.int .i64 0, .int .i64 (-1), .int .i64 0] 150)
          have X0 := Lib.hid (XP.out.alloc (.cells #[.int .i64 0, .int .i64 (-1), .int .i64 0] 150))
          have HB1 := Lib.hid (g_chain HBP.out (below_a1 wp (.cells #[.int .i64 0, .int .i64 (-1), .int .i64 0] 150)))
          have hlp : w.heap.size < wp.heap.size := XP.out.lt
          obtain ⟨l0, x0, x1, x2⟩ := XP.out
          clear hbp
          go_wp2
          clear l0 x0 x1 x2
          go_loopw [32] (fun i wr => ∃ (k : Nat) (p q : Int), k ≤ n ∧ i = .int .i64 k ∧ Hid (HBox wr w.heap.size lo hi A n c) ∧ Hid (Below w.heap.size w wr) ∧ Hid (Blk wr wp.heap.size #[.int .i64 0, .int .i64 p, .int .i64 q] 150) ∧ Hid (runK lo hi p q (es.drop k) = runK lo hi (-1) 0 es)) (fun i _ => n - (intOf i).toNat)
          case atStart => exact ⟨0, -1, 0, Nat.zero_le _, rfl, X0, HB1, LB0, Lib.hid rfl⟩
          case round =>
            clear X0 HB1 LB0 XP HBP
            obtain ⟨k, p, q, hk, rfl, hx, hbel, hlb, hrun⟩ := hrel
            by_cases hlt : k < n
            · obtain ⟨b, off, e, rfl, hbw, he, c0, c1, c2, c3, c4⟩ := HR.out.at_ hlt
              have c0 := (hbel.out.cell (p := ⟨b, off + k * 5, none⟩) hbw).trans c0
              have c1 := (hbel.out.cell (p := ⟨b, off + k * 5 + 1, none⟩) hbw).trans c1
              have c2 := (hbel.out.cell (p := ⟨b, off + k * 5 + 2, none⟩) hbw).trans c2
              have c3 := (hbel.out.cell (p := ⟨b, off + k * 5 + 3, none⟩) hbw).trans c3
              have c4 := (hbel.out.cell (p := ⟨b, off + k * 5 + 4, none⟩) hbw).trans c4
              obtain ⟨l0, x0, x1, x2⟩ := hx.out
              have hwle : w.heap.size ≤ wr.heap.size := hbel.out.size
              go_wp2_with fail
              refine (CP.out e.f e.i _).mono ?_
              rintro e1 w1 ⟨rfl, hb1⟩
              have HB1 := Lib.hid (g_chain (below_a1 wr (.cells #[.int .i64 e.f, .int .i64 e.t, .int .i64 e.w, .int .i64 e.i, .int .i64 e.v] 40)) hb1)
              have X1 := Lib.hid ((hx.out.below HB1.out).alloc (.cells #[.int .i64 0, .int .i64 e.f, .int .i64 e.i] 150))
              have L1 := Lib.hid ((hlb.out.below HB1.out).below (below_a1 w1 (.cells #[.int .i64 0, .int .i64 e.f, .int .i64 e.i] 150)))
              have R1 := Lib.hid (Blk.new w1 #[.int .i64 0, .int .i64 e.f, .int .i64 e.i] 150)
              have HB2 := Lib.hid (g_chain HB1.out (below_a1 w1 (.cells #[.int .i64 0, .int .i64 e.f, .int .i64 e.i] 150)))
              have hl1 : wr.heap.size < w1.heap.size := by have := hb1.size; simp at this; omega
              have hy := fun i (v : Value) (hi : #[Value.int .i64 e.f, .int .i64 e.t, .int .i64 e.w, .int .i64 e.i, .int .i64 e.v][i]? = some v) => ((Blk.new wr #[Value.int .i64 e.f, .int .i64 e.t, .int .i64 e.w, .int .i64 e.i, .int .i64 e.v] 40).below hb1).cell hi
              have y0 := hy 0 _ rfl
              have y1 := hy 1 _ rfl
              have y2 := hy 2 _ rfl
              have y3 := hy 3 _ rfl
              have y4 := hy 4 _ rfl
              obtain ⟨z0, z1, z2, z3⟩ := (hx.out.below HB1.out)
              have HQ := Lib.hid (runK_drop he.out hrun.out)
              clear hb1 c0 c1 c2 c3 c4 l0 x0 x1 x2 hx hrun hy hlb
              cases hv : kedgeB lo hi e with
              | false =>
                have HV : Hid (runK lo hi (-1) 0 es = false) := Lib.hid (by rw [← HQ.out, hv]; rfl)
                have CE1 := Lib.hid (fun W => hv ▸ CE.out e W)
                go_wp2_with fail
                refine (CE1.out _).mono ?_
                rintro e2 w2 ⟨rfl, hb2⟩
                go_wp2
                go_ret
                rw [HV.out]
                exact ⟨rfl, g_chain hbel.out (g_chain HB2.out hb2)⟩
              | true =>
                have CE1 := Lib.hid (fun W => hv ▸ CE.out e W)
                cases ha : afterB p q e with
                | true =>
                  have HN : Hid (runK lo hi e.f e.i (es.drop (k + 1)) = runK lo hi (-1) 0 es) := Lib.hid (by rw [← HQ.out, hv, ha]; rfl)
                  have CL1 := Lib.hid (fun W => ha ▸ CL.out p q e W)
                  clear hv ha HQ
                  go_wp2_with fail
                  refine (CE1.out _).mono ?_
                  rintro e2 w2 ⟨rfl, hb2⟩
                  have L2 := Lib.hid (L1.out.below hb2)
                  have R2 := Lib.hid (R1.out.below hb2)
                  have X2 := Lib.hid (X1.out.below hb2)
                  have HB3 := Lib.hid (g_chain HB2.out hb2)
                  have q0 := L2.out.cell (i := 0) rfl
                  have q1 := L2.out.cell (i := 1) rfl
                  have q2 := L2.out.cell (i := 2) rfl
                  have r0 := R2.out.cell (i := 0) rfl
                  have r1 := R2.out.cell (i := 1) rfl
                  have r2 := R2.out.cell (i := 2) rfl
                  clear hb2
                  go_wp2_with fail
                  refine (CL1.out _).mono ?_
                  rintro e3 w3 ⟨rfl, hb3⟩
                  have L3 := Lib.hid (L2.out.below hb3)
                  have R3 := Lib.hid (R2.out.below hb3)
                  have X3 := Lib.hid (X2.out.below hb3)
                  have HB4 := Lib.hid (g_chain HB3.out hb3)
                  have f0 := L3.out.frozen 0
                  have f1 := L3.out.frozen 1
                  have f2 := L3.out.frozen 2
                  have hlt3 := L3.out.lt
                  have hlw : w.heap.size < wp.heap.size := hlp
                  clear q0 q1 q2 r0 r1 r2 hb3
                  have q0 := L3.out.cell (i := 0) rfl
                  have q1 := L3.out.cell (i := 1) rfl
                  have q2 := L3.out.cell (i := 2) rfl
                  have r0 := R3.out.cell (i := 0) rfl
                  have r1 := R3.out.cell (i := 1) rfl
                  have r2 := R3.out.cell (i := 2) rfl
                  go_wp2
                  go_roundw
                  case rel => exact ⟨k + 1, e.f, e.i, by omega, by go_num, Lib.hid (X3.out.keep (by simp) (by rw [Below.heap_setCell _ _ _ _ (by show w.heap.size ≠ wp.heap.size; omega), Below.heap_setCell _ _ _ _ (by show w.heap.size ≠ wp.heap.size; omega), Below.heap_setCell _ _ _ _ (by show w.heap.size ≠ wp.heap.size; omega)])), Lib.hid ((((g_chain hbel.out HB4.out).setCell (p := ⟨wp.heap.size, 0, none⟩) (by show w.heap.size ≤ wp.heap.size; omega) _).setCell (p := ⟨wp.heap.size, 1, none⟩) (by show w.heap.size ≤ wp.heap.size; omega) _).setCell (p := ⟨wp.heap.size, 2, none⟩) (by show w.heap.size ≤ wp.heap.size; omega) _), Lib.hid (((L3.out.set 0 _).set 1 _).set 2 _), HN⟩
                  case measure => simp [intOf]; omega
                | false =>
                  have HV : Hid (runK lo hi (-1) 0 es = false) := Lib.hid (by rw [← HQ.out, hv, ha]; rfl)
                  have CL1 := Lib.hid (fun W => ha ▸ CL.out p q e W)
                  clear hv ha HQ
                  go_wp2_with fail
                  refine (CE1.out _).mono ?_
                  rintro e2 w2 ⟨rfl, hb2⟩
                  have L2 := Lib.hid (L1.out.below hb2)
                  have R2 := Lib.hid (R1.out.below hb2)
                  have X2 := Lib.hid (X1.out.below hb2)
                  have HB3 := Lib.hid (g_chain HB2.out hb2)
                  have q0 := L2.out.cell (i := 0) rfl
                  have q1 := L2.out.cell (i := 1) rfl
                  have q2 := L2.out.cell (i := 2) rfl
                  have r0 := R2.out.cell (i := 0) rfl
                  have r1 := R2.out.cell (i := 1) rfl
                  have r2 := R2.out.cell (i := 2) rfl
                  clear hb2
                  go_wp2_with fail
                  refine (CL1.out _).mono ?_
                  rintro e3 w3 ⟨rfl, hb3⟩
                  go_wp2
                  go_ret
                  rw [HV.out]
                  exact ⟨rfl, g_chain hbel.out (g_chain HB3.out hb3)⟩
            · obtain rfl : k = n := by omega
              have HV : Hid (runK lo hi (-1) 0 es = true) := Lib.hid (by
                have h := hrun.out
                rw [List.drop_eq_nil_of_le (by rw [HEL.out]; exact Nat.le_refl _), runK] at h
                exact h.symm)
              go_wp2
              go_ret
              rw [HV.out]
              exact ⟨rfl, hbel.out⟩
        · have HV : Hid (shardB lo hi es = false) := Lib.hid (by simp [shardB, hel, h4])
          clear hr hel
          go_enter Try.func106, Try.ntmps106
          go_wp2
          go_ret
          rw [HV.out]
          exact ⟨g_bool (by first | rfl | (simp <;> omega)), HB0.out⟩
      · have HV : Hid (shardB lo hi es = false) := Lib.hid (by simp [shardB, h3])
        clear hr hel
        go_enter Try.func106, Try.ntmps106
        go_wp2
        go_ret
        rw [HV.out]
        exact ⟨g_bool (by first | rfl | (simp <;> omega)), HB0.out⟩
    · have HV : Hid (shardB lo hi es = false) := Lib.hid (by simp [shardB, h2])
      clear hr hel
      go_enter Try.func106, Try.ntmps106
      go_wp2
      go_ret
      rw [HV.out]
      exact ⟨g_bool (by first | rfl | (simp <;> omega)), HB0.out⟩
  · have HV : Hid (shardB lo hi es = false) := Lib.hid (by simp [shardB, h1])
    clear hr hel
    go_enter Try.func106, Try.ntmps106
    go_wp2
    go_ret
    rw [HV.out]
    exact ⟨g_bool (by first | rfl | (simp <;> omega)), HB0.out⟩
end Go.Proofs.Ytpgnappddddlpaa
