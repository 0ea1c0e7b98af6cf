/- The contract of the program's function that lays an empty shard for every interval: a loop over its iterator whose body appends. Condition: at most 2^20 ends. -/
import Derived.Test.YtbfdhlpncblahaaBatI
import Derived.Test.YtbfdhlpncblahaaCShG
import Derived.Test.YtbfdhlpncblahaaCShB
import Derived.Maps.OwnIn
namespace Go.Proofs.Ytbfdhlpncblahaa
open Go.RowKit Go.Shelf
attribute [local go_sem] Oper.semAt_some

def emptyHs (ps : List (Int × Int)) : List HE := ps.map fun x => ⟨x.1, x.2, none, 0, 0, []⟩
theorem emptyHs_len (ps : List (Int × Int)) : (emptyHs ps).length = ps.length := by simp [emptyHs]
theorem emptyHs_own (w : World) (lo : Nat) (ps : List (Int × Int)) : OwnHL w lo (emptyHs ps) := by
  have h : ∀ d ∈ emptyHs ps, ∃ x : Int × Int, d = ⟨x.1, x.2, none, 0, 0, []⟩ := fun d hd => by
    obtain ⟨x, _, rfl⟩ := List.mem_map.1 hd
    exact ⟨x, rfl⟩
  refine ⟨fun d hd => ?_, fun d hd => ?_, ?_⟩
  · obtain ⟨x, rfl⟩ := h d hd
    exact World.ownsRow_nil _ _ _ _
  · obtain ⟨x, rfl⟩ := h d hd
    rfl
  · refine List.pairwise_iff_forall_sublist.2 fun {a b} hs => ?_
    obtain ⟨x, rfl⟩ := h a (hs.subset (by simp))
    exact .inl rfl
theorem emptyHs_sd (ps : List (Int × Int)) : (emptyHs ps).map HE.sd = ps.map (fun x => (x.1, x.2, [])) := by
  unfold emptyHs
  rw [List.map_map]
  rfl
theorem he_cells_new (w : World) (lo hi : Int) (t : TypeId) : ∀ j u, (HE.cells ⟨lo, hi, none, 0, 0, []⟩)[j]? = some u → (w.alloc (.cells #[.int .i64 lo, .int .i64 hi, .slice none 0 0] t)).cell? ((⟨w.heap.size, 0, none⟩ : Addr).add j) = some u := fun j u hj => by
  match j, hj with
  | 0, hj => simp [HE.cells] at hj; subst hj; simp [Addr.add]
  | 1, hj => simp [HE.cells] at hj; subst hj; simp [Addr.add]
  | 2, hj => simp [HE.cells] at hj; subst hj; simp [Addr.add]
/-- New shards without edges. -/
def MadeEm (w : World) (ps : List (Int × Int)) (e : Ending) (w' : World) : Prop :=
  ∃ A c, e = .returned (.slice A ps.length c) ∧ w'.ownsRow w.heap.size 29 3 (.slice A ps.length c) ps.length ((emptyHs ps).flatMap HE.cells) ∧ Below w.heap.size w w'
def EInv (w : World) (pre : List (Int × Int)) (W : World) : Prop :=
  (∃ A' c', Boxed W w.heap.size 38 (.slice A' pre.length c') ∧ W.ownsRow (w.heap.size + 2) 29 3 (.slice A' pre.length c') pre.length ((emptyHs pre).flatMap HE.cells) ∧ w.heap.size + 2 ≤ W.heap.size) ∧ Below w.heap.size w W

set_option maxRecDepth 100000 in
set_option maxHeartbeats 4000000 in
theorem implEmpty_in (A : Option Addr) (n c : Nat) (es : List Int) (w : World) (hI : SlI w A n es) (hn : n ≤ 1048576) :
    CallsIn Fence.wide 3 Try.prog 66 #[.slice A n c] w (MadeEm w (pairsE 0 es)) := by
  obtain ⟨i0, hi, hz0, hz1, hz2⟩ := info_parts Try.infoShard
  have HL := Lib.hid hI.len
  have HI := Lib.hid hI
  clear hI
  refine callsIn_of_wp_marks Try.func66 rfl trivial ?_ rfl
  simp only [Try.ntmps66, List.size_toArray, List.length_cons, List.length_nil, Nat.reduceAdd, Nat.reduceSub, Array.replicate_succ, Array.replicate_zero, List.push_toArray, List.append_toArray, List.nil_append, List.cons_append]
  gi_wp2
  refine ⟨trivial, (spans_in Fence.wide 2 trivial rfl _ _ _ _).mono ?_⟩
  rintro e w' ⟨rfl, rfl⟩
  gi_wp2
  have bO := (Boxed.new w 38 (.slice none 0 0)).alloc (.cells #[.slice A n c] 36)
  have bN := Boxed.new (w.alloc (.cells #[.slice none 0 0] 38)) 36 (.slice A n c)
  rw [World.size_alloc] at bN
  have hB0 : Below w.heap.size w ((w.alloc (.cells #[.slice none 0 0] 38)).alloc (.cells #[.slice A n c] 36)) := below_a2 _ _ _
  have hsz : ((w.alloc (.cells #[.slice none 0 0] 38)).alloc (.cells #[.slice A n c] 36)).heap.size = w.heap.size + 2 := by simp
  generalize ((w.alloc (.cells #[.slice none 0 0] 38)).alloc (.cells #[.slice A n c] 36)) = w0 at bO bN hB0 hsz ⊢
  refine wpIn_rangeFunc_ownG rfl (by omega) (gf := 108) (lb := #[.pointer (some ⟨w.heap.size + 1, 0, none⟩)]) rfl trivial (enters_of Try.func108 (by kernel_rfl) rfl)
    (spans_stops id (pairsE 0 es) Fence.wide 2 trivial rfl (by omega) (w.heap.size + 1) A n c es (List.map_id _) w HI.out hn _ hB0 (by omega) bN.cell) belowK_t (belowK_b (by omega)) (Below.refl _ _) (fun _ => rfl)
    (EInv w) (fun _ _ _ => False)
    (OwnFrom.and (Own.from (fun s A B row hs hg hr => by obtain ⟨A', c', h1, h2, h3⟩ := hs; exact ⟨A', c', box_own h1 hg hr, h2.kept hg (own_ne h2 hr), Nat.le_trans h3 hg.size⟩) _) (ownFrom_below (Nat.le_refl _) (by omega)))
    (fun _ _ _ _ _ hs _ _ => hs)
    ⟨⟨none, 0, bO, World.ownsRow_nil _ _ _ _, by omega⟩, hB0⟩
    (fun x => { tmps := #[.slice A n c, undef, .slice none 0 0, .pointer (some ⟨w.heap.size, 0, none⟩), .int .i64 x.1, .int .i64 x.2, .slice A n c, .func (.func 108) #[] #[.pointer (some ⟨w.heap.size + 1, 0, none⟩)], .int .i64 x.1, .int .i64 x.2, undef, undef, undef, undef, undef, undef, undef], defers := [] }) ?assign ?body ?done ?stop
  case assign =>
    intro l x W K hK
    gi_wp2
    exact hK
  case body =>
    rintro l pre ⟨lo, hi2⟩ W ⟨⟨A', c', hv, hrow, hsW⟩, hB⟩ hlt
    have hc := hv.cell
    gi_wp2_with (gi_at_builtin; refine wpListIn_append_own _ rfl (.tmp 10) (.tmp 14) 38 rfl (w.heap.size + 2) 29 i0 _ 3 40 Try.underlying38 hi hz0 hz1 hz2 rfl (by omega) _ _ _ rfl (hrow.alloc _) ⟨W.heap.size, 0, none⟩ 1 1 (HE.cells ⟨lo, hi2, none, 0, 0, []⟩) rfl rfl (he_cells_new _ _ _ _) (HE.cells_one _) (by simp only [maxLen]; omega) (by omega) (by simp; omega) ?_; intro v3 w3 hown3 hg3 hat3; obtain ⟨P3, cc3, rfl⟩ := rec_form hown3; obtain ⟨hv3, hv4, hr4, hk4, hb4⟩ := hv.appended (by decide) (own_monoG hrow (by omega)) (by omega) (Nat.le_refl _) (own_monoG hown3 (by omega : w.heap.size ≤ w.heap.size + 2)) hg3; have hc4 := hv3.cell; have hf4 := hv3.frozen)
    have hpl : (pre ++ [(lo, hi2)]).length = pre.length + 1 := by simp
    have hs3 := hg3.size
    refine ⟨KeepsOthers.from hk4 _, hb4, ⟨P3, cc3, ?_, ?_, ?_⟩, hB.trans hb4⟩
    · rw [hpl]; exact hv4
    · rw [hpl]
      unfold emptyHs
      rw [List.map_append, List.flatMap_append]
      simpa [emptyHs] using own_lowG hown3 (p := ⟨w.heap.size, 0, none⟩) (by show w.heap.size < w.heap.size + 2; omega) _
    · simp at hs3 ⊢; omega
  case done =>
    rintro D ys W hD rfl ⟨⟨A', c', hv, hrow, hsW⟩, hB⟩ hK
    have hc := hv.cell
    gi_wp2
    refine ⟨by simp, .inl ⟨_, _, rfl, run_takeDeferred hK, ?_⟩⟩
    exact ⟨_, results_tmp rfl _ _ _, A', c', rfl, own_monoG (hrow.kept (grownBy_putObj' W D (.deferred none)) (own_ne hrow (fun r e => by cases e; exact ⟨_, hK, rfl⟩))) (by omega), hB.trans (belowK_b (w := w) (Nat.le_refl _) W D _ _ (by omega) hK rfl rfl)⟩
  case stop =>
    rintro D c pre W _ _ h _
    exact h.elim
theorem implEmpty (A : Option Addr) (n c : Nat) (es : List Int) (w : World) (hI : SlI w A n es) (hn : n ≤ 1048576) :
    Calls Try.prog 66 #[.slice A n c] w (MadeEm w (pairsE 0 es)) :=
  callsIn_wide.1 (implEmpty_in A n c es w hI hn)
end Go.Proofs.Ytbfdhlpncblahaa
