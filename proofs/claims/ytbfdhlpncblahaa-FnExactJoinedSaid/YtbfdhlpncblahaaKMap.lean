/- Maps from numbers to edges, and from records to edges, in memory: what stores leave, what a look-up finds (plain lemmas over the model; no condition). -/
import Derived.Test.YtbfdhlpncblahaaJoinMath
import Derived.Test.YtbfdhlpncblahaaGrN
import Derived.Maps.OwnSet
import Derived.Maps.OwnOps
namespace Go.Proofs.Ytbfdhlpncblahaa
open Go.RowKit Go.Maps

def rawE : Value → Option (DataW Value × List MemPlace) := fun v => some (.held v, [])
theorem lookup_known {P : Program} (w : World) {ops : Array Oper} {rest : List Oper} {o : Oper} {a : Act} {Q : Exit → Act → World → Prop}
    (hg : o.guard = none) (m x : Operand) (t : TypeId) (hop : o.op = Op.lookup t m x true)
    (k e : TypeId) (K : Keyed P k) (ht : P.underlying t = some (.map k e)) {z : Value} (hz : (zeroValue e).run P w = .ok z w) (b n : Nat) (D : DataW Value)
    (hm : a.eval m = .map (some b)) (hown : w.ownsMap P k rawE b n D) (key : Value) (kl : Lit) (hx : a.eval x = key) (hkey : keyOf P k key = some kl) (v0 : Value) (ok : Bool)
    (hat : D.atKey kl (.held z) = .held v0) (hh : Maps.has D kl = ok)
    (hK : wpList P ops Q rest (a.put o.dst (.tuple #[v0, .bool ok])) w) : wpList P ops Q (o :: rest) a w :=
  wpList_lookup_own_ok w hg m x t hop k e K ht rawE hz (.held z) [] rfl b n D hm hown key kl hx hkey (fun v ps hv => by
    have h1 : DataW.held v = D.atKey kl (.held z) := by
      unfold rawE at hv
      injection hv with hv
      exact congrArg Prod.fst hv
    rw [hat] at h1
    injection h1 with h1
    subst h1
    rw [hh]
    exact hK)
theorem lookup_plain {P : Program} (w : World) {k t e : TypeId} (K : Keyed P k) (ht : P.underlying t = some (.map k e)) {z : Value} (hz : (zeroValue e).run P w = .ok z w) {b n : Nat} {D : DataW Value}
    (hown : w.ownsMap P k rawE b n D) {key : Value} {kl : Lit} (hkey : keyOf P k key = some kl) {v0 : Value} (hat : D.atKey kl (.held z) = .held v0) : (Instr.lookup t (.map (some b)) key false).run P w = .ok v0 w := by
  obtain ⟨v, ps, hrun, hv⟩ := hown.lookup K ht hz (zd := .held z) (zp := []) rfl hkey
  have h1 : DataW.held v = D.atKey kl (.held z) := by
    unfold rawE at hv
    injection hv with hv
    exact congrArg Prod.fst hv
  rw [hat] at h1
  injection h1 with h1
  rw [← h1]
  exact hrun

theorem Try.keyedInt : Keyed Try.prog 3 := int_keyed Try.underlying3
theorem keyIdx {x : Int} (h : (Lit.int .i64 x).wf = true) : keyOf Try.prog 3 (.int .i64 x) = some (.int .i64 x) := keyOf_int_mk Try.underlying3 h

/-- Block mb is a map that bears, under their numbers, the edges of F. -/
structure ByIdx (w : World) (mb n : Nat) (F : List KE) : Prop where
  map : ∃ D : DataW Value, w.ownsMap Try.prog 3 rawE mb n D ∧ IsMap D ∧
    (∀ x : Int, (∃ e ∈ F, e.i = x) → Maps.has D (.int .i64 x) = true ∧ ∃ e ∈ F, e.i = x ∧ ∀ z, D.atKey (.int .i64 x) z = .held e.ge.v) ∧
    (∀ x : Int, (¬ ∃ e ∈ F, e.i = x) → Maps.has D (.int .i64 x) = false ∧ ∀ z, D.atKey (.int .i64 x) z = z)
section
variable {w w' : World} {mb n : Nat} {F : List KE}
theorem ByIdx.new (w : World) : ByIdx (w.alloc (.map #[] 0)) w.heap.size 0 [] :=
  ⟨.map [], World.ownsMap_made _ _ _ _, isMap_empty, fun x h => absurd h (by simp), fun x _ => ⟨rfl, fun z => rfl⟩⟩
theorem ByIdx.kept {row : Option Nat} (h : ByIdx w mb n F) (hg : w.grownBy w' row) (hne : some mb ≠ row) : ByIdx w' mb n F := by
  obtain ⟨D, h1, h2⟩ := h.map
  exact ⟨D, h1.kept hg hne, h2⟩
theorem ByIdx.below (h : ByIdx w mb n F) (hb : Below w.heap.size w w') : ByIdx w' mb n F := h.kept (grownBy_of_below hb none) (by simp)
theorem ByIdx.lt (h : ByIdx w mb n F) : mb < w.heap.size := by
  obtain ⟨D, h1, _⟩ := h.map
  exact h1.lt
theorem ByIdx.put {D : DataW Value} {e : KE} (ho : w'.ownsMap Try.prog 3 rawE mb (n + 1) (D.put (.int .i64 e.i) (.held e.ge.v))) (hm : IsMap D)
    (h1 : ∀ x : Int, (∃ e ∈ F, e.i = x) → Maps.has D (.int .i64 x) = true ∧ ∃ e ∈ F, e.i = x ∧ ∀ z, D.atKey (.int .i64 x) z = .held e.ge.v)
    (h2 : ∀ x : Int, (¬ ∃ e ∈ F, e.i = x) → Maps.has D (.int .i64 x) = false ∧ ∀ z, D.atKey (.int .i64 x) z = z) : ByIdx w' mb (n + 1) (F ++ [e]) := by
  refine ⟨_, ho, hm.put _ _, fun x hx => ?_, fun x hx => ?_⟩
  · by_cases he : e.i = x
    · subst he
      exact ⟨has_put_same hm (k := .int .i64 e.i) trivial _, e, by simp, rfl, fun z => atKey_put_same hm (k := .int .i64 e.i) trivial _ z⟩
    · have hne : Lit.int .i64 x ≠ Lit.int .i64 e.i := fun h => he (by injection h with _ h; exact h.symm)
      obtain ⟨a, ha, hax⟩ := hx
      have ha2 : a ∈ F := by
        rcases List.mem_append.1 ha with ha | ha
        · exact ha
        · simp at ha
          subst ha
          exact absurd hax he
      obtain ⟨q1, b, hb, hbx, q2⟩ := h1 x ⟨a, ha2, hax⟩
      exact ⟨(has_put_other hne _).trans q1, b, List.mem_append_left _ hb, hbx, fun z => (atKey_put_other hne _ z).trans (q2 z)⟩
  · have he : ¬ e.i = x := fun he => hx ⟨e, by simp, he⟩
    have hne : Lit.int .i64 x ≠ Lit.int .i64 e.i := fun h => he (by injection h with _ h; exact h.symm)
    obtain ⟨q1, q2⟩ := h2 x (fun ⟨a, ha, hax⟩ => hx ⟨a, List.mem_append_left _ ha, hax⟩)
    exact ⟨(has_put_other hne _).trans q1, fun z => (atKey_put_other hne _ z).trans (q2 z)⟩
end
end Go.Proofs.Ytbfdhlpncblahaa
