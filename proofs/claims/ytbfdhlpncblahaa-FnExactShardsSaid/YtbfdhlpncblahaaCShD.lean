/- Maps from numbers to edges, and from records to edges, in memory: what stores leave, what a look-up finds (plain lemmas over the model; no condition). // A record of three numbers as a map's key: what it reads as; a map from records to edges (plain lemmas over the model; no condition). -/
import Derived.Test.YtbfdhlpncblahaaCShA
import Derived.Test.YtbfdhlpncblahaaGrN
import Derived.Maps.OwnSet
import Derived.Maps.OwnOps
import Derived.DeepKeys4
import Derived.OpenShut
namespace Go.Proofs.Ytbfdhlpncblahaa
open Go.RowKit Go.Maps

def rawE : Value → Option (DataW Value × List MemPlace) := fun v => some (.held v, [])
theorem lookup_known {P : Program} (w : World) {ops : Array Oper} {rest : List Oper} {o : Oper} {a : Act} {Q : Exit → Act → World → Prop}
    (hg : o.guard = none) (m x : Operand) (t : TypeId) (hop : o.op = Op.lookup t m x true)
    (k e : TypeId) (K : Keyed P k) (ht : P.underlying t = some (.map k e)) {z : Value} (hz : (zeroValue e).run P w = .ok z w) (b n : Nat) (D : DataW Value)
    (hm : a.eval m = .map (some b)) (hown : w.ownsMap P k rawE b n D) (key : Value) (kl : Lit) (hx : a.eval x = key) (hkey : keyOf P k key = some kl) (v0 : Value) (ok : Bool)
    (hat : D.atKey kl (.held z) = .held v0) (hh : Maps.has D kl = ok)
    (hK : wpList P ops Q rest (a.put o.dst (.tuple #[v0, .bool ok])) w) : wpList P ops Q (o :: rest) a w :=
  wpList_lookup_own_ok w hg m x t hop k e K ht rawE hz (.held z) [] rfl b n D hm hown key kl hx hkey (fun v ps hv => by
    have h1 : DataW.held v = D.atKey kl (.held z) := by
      unfold rawE at hv
      injection hv with hv
      exact congrArg Prod.fst hv
    rw [hat] at h1
    injection h1 with h1
    subst h1
    rw [hh]
    exact hK)
theorem lookup_plain {P : Program} (w : World) {k t e : TypeId} (K : Keyed P k) (ht : P.underlying t = some (.map k e)) {z : Value} (hz : (zeroValue e).run P w = .ok z w) {b n : Nat} {D : DataW Value}
    (hown : w.ownsMap P k rawE b n D) {key : Value} {kl : Lit} (hkey : keyOf P k key = some kl) {v0 : Value} (hat : D.atKey kl (.held z) = .held v0) : (Instr.lookup t (.map (some b)) key false).run P w = .ok v0 w := by
  obtain ⟨v, ps, hrun, hv⟩ := hown.lookup K ht hz (zd := .held z) (zp := []) rfl hkey
  have h1 : DataW.held v = D.atKey kl (.held z) := by
    unfold rawE at hv
    injection hv with hv
    exact congrArg Prod.fst hv
  rw [hat] at h1
  injection h1 with h1
  rw [← h1]
  exact hrun

theorem Try.keyedInt : Keyed Try.prog 3 := int_keyed Try.underlying3
theorem keyIdx {x : Int} (h : (Lit.int .i64 x).wf = true) : keyOf Try.prog 3 (.int .i64 x) = some (.int .i64 x) := keyOf_int_mk Try.underlying3 h

/-- Block mb is a map that bears, under their numbers, the edges of F. -/
structure ByIdx (w : World) (mb n : Nat) (F : List KE) : Prop where
  map : ∃ D : DataW Value, w.ownsMap Try.prog 3 rawE mb n D ∧ IsMap D ∧
    (∀ x : Int, (∃ e ∈ F, e.i = x) → Maps.has D (.int .i64 x) = true ∧ ∃ e ∈ F, e.i = x ∧ ∀ z, D.atKey (.int .i64 x) z = .held e.ge.v) ∧
    (∀ x : Int, (¬ ∃ e ∈ F, e.i = x) → Maps.has D (.int .i64 x) = false ∧ ∀ z, D.atKey (.int .i64 x) z = z)
section
variable {w w' : World} {mb n : Nat} {F : List KE}
theorem ByIdx.new (w : World) : ByIdx (w.alloc (.map #[] 0)) w.heap.size 0 [] :=
  ⟨.map [], World.ownsMap_made _ _ _ _, isMap_empty, fun x h => absurd h (by simp), fun x _ => ⟨rfl, fun z => rfl⟩⟩
theorem ByIdx.kept {row : Option Nat} (h : ByIdx w mb n F) (hg : w.grownBy w' row) (hne : some mb ≠ row) : ByIdx w' mb n F := by
  obtain ⟨D, h1, h2⟩ := h.map
  exact ⟨D, h1.kept hg hne, h2⟩
theorem ByIdx.below (h : ByIdx w mb n F) (hb : Below w.heap.size w w') : ByIdx w' mb n F := h.kept (grownBy_of_below hb none) (by simp)
theorem ByIdx.lt (h : ByIdx w mb n F) : mb < w.heap.size := by
  obtain ⟨D, h1, _⟩ := h.map
  exact h1.lt
theorem ByIdx.put {D : DataW Value} {e : KE} (ho : w'.ownsMap Try.prog 3 rawE mb (n + 1) (D.put (.int .i64 e.i) (.held e.ge.v))) (hm : IsMap D)
    (h1 : ∀ x : Int, (∃ e ∈ F, e.i = x) → Maps.has D (.int .i64 x) = true ∧ ∃ e ∈ F, e.i = x ∧ ∀ z, D.atKey (.int .i64 x) z = .held e.ge.v)
    (h2 : ∀ x : Int, (¬ ∃ e ∈ F, e.i = x) → Maps.has D (.int .i64 x) = false ∧ ∀ z, D.atKey (.int .i64 x) z = z) : ByIdx w' mb (n + 1) (F ++ [e]) := by
  refine ⟨_, ho, hm.put _ _, fun x hx => ?_, fun x hx => ?_⟩
  · by_cases he : e.i = x
    · subst he
      exact ⟨has_put_same hm (k := .int .i64 e.i) trivial _, e, by simp, rfl, fun z => atKey_put_same hm (k := .int .i64 e.i) trivial _ z⟩
    · have hne : Lit.int .i64 x ≠ Lit.int .i64 e.i := fun h => he (by injection h with _ h; exact h.symm)
      obtain ⟨a, ha, hax⟩ := hx
      have ha2 : a ∈ F := by
        rcases List.mem_append.1 ha with ha | ha
        · exact ha
        · simp at ha
          subst ha
          exact absurd hax he
      obtain ⟨q1, b, hb, hbx, q2⟩ := h1 x ⟨a, ha2, hax⟩
      exact ⟨(has_put_other hne _).trans q1, b, List.mem_append_left _ hb, hbx, fun z => (atKey_put_other hne _ z).trans (q2 z)⟩
  · have he : ¬ e.i = x := fun he => hx ⟨e, by simp, he⟩
    have hne : Lit.int .i64 x ≠ Lit.int .i64 e.i := fun h => he (by injection h with _ h; exact h.symm)
    obtain ⟨q1, q2⟩ := h2 x (fun ⟨a, ha, hax⟩ => hx ⟨a, List.mem_append_left _ ha, hax⟩)
    exact ⟨(has_put_other hne _).trans q1, fun z => (atKey_put_other hne _ z).trans (q2 z)⟩
end
end Go.Proofs.Ytbfdhlpncblahaa
namespace Go.Proofs.Ytbfdhlpncblahaa
open Go.RowKit Go.Maps

theorem pos_succ {s t : Nat} (h : t < s) : ∃ m, s = m + 1 := ⟨s - 1, by omega⟩
theorem Try.laidOutR : laidOutB Try.prog = true := by kernel_rfl
theorem Try.rowR : (82 : TypeId) < Try.prog.types.size := of_decide_eq_true (by kernel_rfl)
theorem Try.wideR : (match Try.prog.underlying 82 with | some (.array _ _) | some (.struct _) => true | _ => false) = true := by rw [Try.underlying82]
set_option maxRecDepth 100000 in
theorem Try.keyedRec : Keyed Try.prog 82 := Keyed.of_law (deep_law_laid Try.laidOutR (m := 2) (by omega) Try.rowR (by kernel_rfl) Try.wideR)
theorem Try.cellsR : Try.prog.cellsOf 82 = 3 := by kernel_rfl
theorem Try.cellsRI : Try.prog.cellsOf 3 = 1 := by kernel_rfl
theorem Try.keyTypeR : Try.prog.keyType 82 = true := by kernel_rfl

def recLit (a b c : Int) : Lit := .string (keyBytes [.int .i64 a, .int .i64 b, .int .i64 c])
theorem keyRec {a b c : Int} (h1 : (Lit.int .i64 a).wf = true) (h2 : (Lit.int .i64 b).wf = true) (h3 : (Lit.int .i64 c).wf = true) : keyOf Try.prog 82 (.agg #[.int .i64 a, .int .i64 b, .int .i64 c]) = some (recLit a b c) := by
  obtain ⟨m, hm⟩ : ∃ m, Try.prog.types.size = m + 1 := pos_succ Try.rowR
  unfold keyOf
  simp only [Try.underlying82]
  rw [if_pos (by simp [Try.keyTypeR, Value.formed, Try.underlying82, Try.cellsR]), hm]
  unfold Program.keyLits
  simp only [Try.underlying82, Value.cells]
  rw [if_pos (by simp [Try.cellsR])]
  simp [Program.keyLits, Try.underlying3, Try.cellsRI, h1, h2, h3, recLit]
theorem recLit_ne {a b c a' b' c' : Int} (h1 : (Lit.int .i64 a).wf = true) (h2 : (Lit.int .i64 b).wf = true) (h3 : (Lit.int .i64 c).wf = true) (h1' : (Lit.int .i64 a').wf = true) (h2' : (Lit.int .i64 b').wf = true) (h3' : (Lit.int .i64 c').wf = true) (hne : c ≠ c') : recLit a b c ≠ recLit a' b' c' := fun h => by
  have e1 := keyRec h1 h2 h3
  have e2 := keyRec h1' h2' h3'
  rw [← h] at e2
  have := Try.keyedRec.inj e1 e2
  simp at this
  exact hne this.2.2

theorem wf_mid {x : Int} (h0 : 0 ≤ x) (h1 : x ≤ 1000000000) : (Lit.int .i64 x).wf = true := by
  unfold Lit.wf
  rw [Bool.and_eq_true, decide_eq_true_iff, decide_eq_true_iff]
  constructor
  · exact Int.le_trans (by decide) h0
  · exact Int.le_trans h1 (by decide)
theorem rec_wf {N : Int} {es : List GE} {ends : List Int} {j : Nat} {x : GE} (h1 : graphB N es = true) (h2 : endsB N ends = true) (hm : ends.length ≤ 1048576) (h : es[j]? = some x) : (Lit.int .i64 (ivE ends x.t)).wf = true ∧ (Lit.int .i64 x.f).wf = true ∧ (Lit.int .i64 (j : Int)).wf = true := by
  have hg := graphB_iff h1
  have hed := edgeB_iff (hg.2.2.2 x (List.mem_of_getElem? h))
  have hen := endsB_iff h2
  have hr := iv_range (xs := ends) (v := x.t) hed.2.2.1 (by rw [hen.2.2.2]; exact hed.2.2.2.1)
  have hj := (List.getElem?_eq_some_iff.1 h).1
  exact ⟨wf_mid hr.1 (by omega), wf_mid hed.1 (by omega), wf_mid (by omega) (by omega)⟩

/-- Block mb is a map that bears the first k edges, each under its record. -/
structure ByRec (w : World) (mb n : Nat) (ends : List Int) (es : List GE) (k : Nat) : Prop where
  map : ∃ D : DataW Value, w.ownsMap Try.prog 82 rawE mb n D ∧ IsMap D ∧
    (∀ (j : Nat) (e : GE), j < k → es[j]? = some e → ∀ z, D.atKey (recLit (ivE ends e.t) e.f (j : Int)) z = .held e.v)
section
variable {w w' : World} {mb n k : Nat} {ends : List Int} {es : List GE}
theorem ByRec.new (w : World) (ends : List Int) (es : List GE) : ByRec (w.alloc (.map #[] 0)) w.heap.size 0 ends es 0 :=
  ⟨.map [], World.ownsMap_made _ _ _ _, isMap_empty, fun j e h => by omega⟩
theorem ByRec.kept {row : Option Nat} (h : ByRec w mb n ends es k) (hg : w.grownBy w' row) (hne : some mb ≠ row) : ByRec w' mb n ends es k := by
  obtain ⟨D, h1, h2⟩ := h.map
  exact ⟨D, h1.kept hg hne, h2⟩
theorem ByRec.below (h : ByRec w mb n ends es k) (hb : Below w.heap.size w w') : ByRec w' mb n ends es k := h.kept (grownBy_of_below hb none) (by simp)
theorem ByRec.only (h : ByRec w mb n ends es k) (hk : w'.heap[mb]? = w.heap[mb]?) : ByRec w' mb n ends es k := by
  obtain ⟨D, ⟨a, clock, hb, F, hs, hD⟩, h2⟩ := h.map
  exact ⟨D, ⟨a, clock, hk.trans hb, F, hs, hD⟩, h2⟩
theorem ByRec.lt (h : ByRec w mb n ends es k) : mb < w.heap.size := by
  obtain ⟨D, h1, _⟩ := h.map
  exact h1.lt
theorem ByRec.put {D : DataW Value} {e : GE} (he : es[k]? = some e) (hw : ∀ (j : Nat) (x : GE), j ≤ k → es[j]? = some x → (Lit.int .i64 (ivE ends x.t)).wf = true ∧ (Lit.int .i64 x.f).wf = true ∧ (Lit.int .i64 (j : Int)).wf = true)
    (ho : w'.ownsMap Try.prog 82 rawE mb (n + 1) (D.put (recLit (ivE ends e.t) e.f (k : Int)) (.held e.v))) (hm : IsMap D)
    (h1 : ∀ (j : Nat) (e : GE), j < k → es[j]? = some e → ∀ z, D.atKey (recLit (ivE ends e.t) e.f (j : Int)) z = .held e.v) : ByRec w' mb (n + 1) ends es (k + 1) := by
  refine ⟨_, ho, hm.put _ _, fun j x hj hx z => ?_⟩
  rcases Nat.lt_or_ge j k with hjk | hjk
  · obtain ⟨a1, a2, a3⟩ := hw j x (by omega) hx
    obtain ⟨b1, b2, b3⟩ := hw k e (Nat.le_refl _) he
    exact (atKey_put_other (recLit_ne a1 a2 a3 b1 b2 b3 (by omega)) _ z).trans (h1 j x hjk hx z)
  · obtain rfl : j = k := by omega
    rw [he] at hx
    injection hx with hx
    subst hx
    exact atKey_put_same hm (k := recLit (ivE ends e.t) e.f (j : Int)) trivial _ z
end
end Go.Proofs.Ytbfdhlpncblahaa
