/- The contract of the program's Cut, whole. Condition: at most 2^20 edges. // Maps from numbers to edges, and from records to edges, in memory: what stores leave, what a look-up finds (plain lemmas over the model; no condition). // A record of three numbers as a map's key: what it reads as; a map from records to edges (plain lemmas over the model; no condition). // The contracts of the functions on ends that only read: the model's EndsOk, IntervalOf and Span, the program's IntervalOf. Condition: at most 2^20 ends. // The contracts of the program's EndsOk and Span: loops over its iterator. Condition: at most 2^20 ends. -/
import Derived.Test.YtpgnappddddlpaaCOG
import Derived.Test.YtpgnappddddlpaaCOF
import Derived.Test.YtpgnappddddlpaaCOB
import Derived.Test.YtpgnappddddlpaaCOA
import Derived.Maps.OwnSet
import Derived.Maps.OwnOps
import Derived.DeepKeys4
import Derived.OpenShut
import Derived.Test.YtpgnappddddlpaaCOE
namespace Go.Proofs.Ytpgnappddddlpaa
open Go.RowKit

/-- The program's isBudget. -/
theorem isBudget_any (b : Int) (w : World) : Calls Try.prog 75 #[.int .i64 b] w fun e w' => e = .returned (.bool (decide (1 ≤ b ∧ b ≤ 400))) ∧ w = w' := by
  by_cases h1 : 1 ≤ b
  · by_cases h2 : b ≤ 400
    · rw [decide_eq_true (⟨h1, h2⟩ : 1 ≤ b ∧ b ≤ 400)]
      go_enter Try.func75, Try.ntmps75
      go_wp2
      go_ret
      exact ⟨rfl, rfl⟩
    · rw [decide_eq_false (fun h : 1 ≤ b ∧ b ≤ 400 => h2 h.2)]
      go_enter Try.func75, Try.ntmps75
      go_wp2
      go_ret
      exact ⟨rfl, rfl⟩
  · rw [decide_eq_false (fun h : 1 ≤ b ∧ b ≤ 400 => h1 h.1)]
    go_enter Try.func75, Try.ntmps75
    go_wp2
    go_ret
    exact ⟨rfl, rfl⟩
set_option maxRecDepth 10000 in
set_option maxHeartbeats 4000000 in
theorem implCut (N : Int) (A : Option Addr) (n c : Nat) (es : List GE) (b : Int) (w : World) (hr : SlG w A n es) (hn : n ≤ 1048576) :
    Calls Try.prog 51 #[.agg #[.int .i64 N, .slice A n c], .int .i64 b] w (MadeI w (cutR N es b)) := by
  have CG := Lib.hid (fun W (h : Below w.heap.size w W) => implGraphOk N A n c es W (hr.below h) hn)
  have CD := Lib.hid (fun W (h : Below w.heap.size w W) => implIn N A n c es W (hr.below h) hn)
  have CB := Lib.hid (fun W => isBudget_any b W)
  have HEL := Lib.hid hr.len
  obtain ⟨R, hR⟩ : ∃ R, cutR N es b = R := ⟨_, rfl⟩
  rw [hR]
  clear hr
  go_enter Try.func51, Try.ntmps51
  go_wp2_with fail
  refine (CG.out _ (below_a1 _ _)).mono ?_
  rintro e w1 ⟨rfl, hb1⟩
  have X1 := Lib.hid ((NBox.new w N A n c 58).below hb1)
  have HB1 := Lib.hid (g_chain (below_a1 w (.cells #[.int .i64 N, .slice A n c] 58)) hb1)
  clear hb1
  obtain ⟨l0, x0, x1⟩ := X1.out
  cases hv : graphB N es with
  | false =>
    have HD := Lib.hid (hR.symm.trans (cutR_no (.inl hv)))
    go_wp2
    go_ret
    rw [HD.out]
    exact ⟨none, 0, 0, rfl, World.ownsRow_nil _ _ _ _, HB1.out⟩
  | true =>
    by_cases hb1 : b < 1
    · have HD := Lib.hid (hR.symm.trans (cutR_no (.inr (.inl hb1))))
      rw [decide_eq_false (fun h : 1 ≤ b ∧ b ≤ 400 => absurd h.1 (by omega))] at CB
      go_wp2_with fail
      refine (CB.out _).mono ?_
      rintro e9 w9 ⟨rfl, rfl⟩
      go_wp2
      go_ret
      rw [HD.out]
      exact ⟨none, 0, 0, rfl, World.ownsRow_nil _ _ _ _, HB1.out⟩
    · by_cases hb2 : 400 < b
      · have HD := Lib.hid (hR.symm.trans (cutR_no (.inr (.inr hb2))))
        rw [decide_eq_false (fun h : 1 ≤ b ∧ b ≤ 400 => absurd h.2 (by omega))] at CB
        go_wp2_with fail
        refine (CB.out _).mono ?_
        rintro e9 w9 ⟨rfl, rfl⟩
        go_wp2
        go_ret
        rw [HD.out]
        exact ⟨none, 0, 0, rfl, World.ownsRow_nil _ _ _ _, HB1.out⟩
      · have HD := Lib.hid (hR.symm.trans (cutR_yes hv (b := b) (by omega) (by omega)))
        obtain ⟨g1, g2, g3, _⟩ := graphB_iff hv
        have hdl : (degsOf GE.t N es).length ≤ 150 := by unfold degsOf; rw [if_pos hv, degs_len]; omega
        have HBD : Hid (∀ x ∈ degsOf GE.t N es, 0 ≤ x ∧ x ≤ 400) := Lib.hid (fun x hx => by
          unfold degsOf at hx
          rw [if_pos hv] at hx
          have := degs_bound GE.t N.toNat es x hx
          omega)
        generalize degsOf GE.t N es = ds at CD hdl HBD HD
        clear hv g1 g2 g3 CG hR
        rw [decide_eq_true (⟨by omega, by omega⟩ : 1 ≤ b ∧ b ≤ 400)] at CB
        go_wp2_with fail
        refine (CB.out _).mono ?_
        rintro e9 w9 ⟨rfl, hsame⟩
        obtain rfl := hsame
        go_wp2_with fail
        refine (CD.out _ HB1.out).mono ?_
        rintro e w2 ⟨A2, m2, c2, rfl, hod, hb2'⟩
        obtain rfl := hod.cnt
        have HB2 := Lib.hid (g_chain HB1.out hb2')
        have D2 := Lib.hid hod.rd
        clear hod hb2' l0 x0 x1
        go_wp2_with fail
        refine (greedy_any _ _ _ _ _).mono ?_
        rintro e w3 ⟨rfl, rfl⟩
        have HG : Hid (GrdIn ((w2.alloc (.cells #[.slice A2 ds.length c2] 23)).alloc (.cells #[.int .i64 b] 3)) w2.heap.size (w2.heap.size + 1) A2 ds.length c2 ds b) := Lib.hid ⟨D2.out.below (below_a2 _ _ _), hdl, by omega, by omega, HBD.out, by simp; omega, by simp, by simp, by simp⟩
        have HB3 := Lib.hid (g_chain HB2.out (below_a2 w2 (.cells #[.slice A2 ds.length c2] 23) (.cells #[.int .i64 b] 3)))
        go_wp2_with fail
        refine (collect_any _ _ _ _ _ _ _ _ HG.out).mono ?_
        rintro e w4 ⟨v, rfl, ho, hb4⟩
        obtain ⟨A5, c5, rfl⟩ := i_form ho
        have HO := Lib.hid ho
        have HB4 := Lib.hid (g_chain HB3.out hb4)
        clear ho hb4
        go_wp2
        go_ret
        rw [HD.out]
        exact ⟨A5, _, c5, rfl, own_monoG HO.out HB3.out.size, HB4.out⟩
end Go.Proofs.Ytpgnappddddlpaa
namespace Go.Proofs.Ytpgnappddddlpaa
open Go.RowKit Go.Maps

def rawE : Value → Option (DataW Value × List MemPlace) := fun v => some (.held v, [])
theorem lookup_known {P : Program} (w : World) {ops : Array Oper} {rest : List Oper} {o : Oper} {a : Act} {Q : Exit → Act → World → Prop}
    (hg : o.guard = none) (m x : Operand) (t : TypeId) (hop : o.op = Op.lookup t m x true)
    (k e : TypeId) (K : Keyed P k) (ht : P.underlying t = some (.map k e)) {z : Value} (hz : (zeroValue e).run P w = .ok z w) (b n : Nat) (D : DataW Value)
    (hm : a.eval m = .map (some b)) (hown : w.ownsMap P k rawE b n D) (key : Value) (kl : Lit) (hx : a.eval x = key) (hkey : keyOf P k key = some kl) (v0 : Value) (ok : Bool)
    (hat : D.atKey kl (.held z) = .held v0) (hh : Maps.has D kl = ok)
    (hK : wpList P ops Q rest (a.put o.dst (.tuple #[v0, .bool ok])) w) : wpList P ops Q (o :: rest) a w :=
  wpList_lookup_own_ok w hg m x t hop k e K ht rawE hz (.held z) [] rfl b n D hm hown key kl hx hkey (fun v ps hv => by
    have h1 : DataW.held v = D.atKey kl (.held z) := by
      unfold rawE at hv
      injection hv with hv
      exact congrArg Prod.fst hv
    rw [hat] at h1
    injection h1 with h1
    subst h1
    rw [hh]
    exact hK)
theorem lookup_plain {P : Program} (w : World) {k t e : TypeId} (K : Keyed P k) (ht : P.underlying t = some (.map k e)) {z : Value} (hz : (zeroValue e).run P w = .ok z w) {b n : Nat} {D : DataW Value}
    (hown : w.ownsMap P k rawE b n D) {key : Value} {kl : Lit} (hkey : keyOf P k key = some kl) {v0 : Value} (hat : D.atKey kl (.held z) = .held v0) : (Instr.lookup t (.map (some b)) key false).run P w = .ok v0 w := by
  obtain ⟨v, ps, hrun, hv⟩ := hown.lookup K ht hz (zd := .held z) (zp := []) rfl hkey
  have h1 : DataW.held v = D.atKey kl (.held z) := by
    unfold rawE at hv
    injection hv with hv
    exact congrArg Prod.fst hv
  rw [hat] at h1
  injection h1 with h1
  rw [← h1]
  exact hrun

theorem Try.keyedInt : Keyed Try.prog 3 := int_keyed Try.underlying3
theorem keyIdx {x : Int} (h : (Lit.int .i64 x).wf = true) : keyOf Try.prog 3 (.int .i64 x) = some (.int .i64 x) := keyOf_int_mk Try.underlying3 h

/-- Block mb is a map that bears, under their numbers, the edges of F. -/
structure ByIdx (w : World) (mb n : Nat) (F : List KE) : Prop where
  map : ∃ D : DataW Value, w.ownsMap Try.prog 3 rawE mb n D ∧ IsMap D ∧
    (∀ x : Int, (∃ e ∈ F, e.i = x) → Maps.has D (.int .i64 x) = true ∧ ∃ e ∈ F, e.i = x ∧ ∀ z, D.atKey (.int .i64 x) z = .held e.ge.v) ∧
    (∀ x : Int, (¬ ∃ e ∈ F, e.i = x) → Maps.has D (.int .i64 x) = false ∧ ∀ z, D.atKey (.int .i64 x) z = z)
section
variable {w w' : World} {mb n : Nat} {F : List KE}
theorem ByIdx.new (w : World) : ByIdx (w.alloc (.map #[] 0)) w.heap.size 0 [] :=
  ⟨.map [], World.ownsMap_made _ _ _ _, isMap_empty, fun x h => absurd h (by simp), fun x _ => ⟨rfl, fun z => rfl⟩⟩
theorem ByIdx.kept {row : Option Nat} (h : ByIdx w mb n F) (hg : w.grownBy w' row) (hne : some mb ≠ row) : ByIdx w' mb n F := by
  obtain ⟨D, h1, h2⟩ := h.map
  exact ⟨D, h1.kept hg hne, h2⟩
theorem ByIdx.below (h : ByIdx w mb n F) (hb : Below w.heap.size w w') : ByIdx w' mb n F := h.kept (grownBy_of_below hb none) (by simp)
theorem ByIdx.lt (h : ByIdx w mb n F) : mb < w.heap.size := by
  obtain ⟨D, h1, _⟩ := h.map
  exact h1.lt
theorem ByIdx.put {D : DataW Value} {e : KE} (ho : w'.ownsMap Try.prog 3 rawE mb (n + 1) (D.put (.int .i64 e.i) (.held e.ge.v))) (hm : IsMap D)
    (h1 : ∀ x : Int, (∃ e ∈ F, e.i = x) → Maps.has D (.int .i64 x) = true ∧ ∃ e ∈ F, e.i = x ∧ ∀ z, D.atKey (.int .i64 x) z = .held e.ge.v)
    (h2 : ∀ x : Int, (¬ ∃ e ∈ F, e.i = x) → Maps.has D (.int .i64 x) = false ∧ ∀ z, D.atKey (.int .i64 x) z = z) : ByIdx w' mb (n + 1) (F ++ [e]) := by
  refine ⟨_, ho, hm.put _ _, fun x hx => ?_, fun x hx => ?_⟩
  · by_cases he : e.i = x
    · subst he
      exact ⟨has_put_same hm (k := .int .i64 e.i) trivial _, e, by simp, rfl, fun z => atKey_put_same hm (k := .int .i64 e.i) trivial _ z⟩
    · have hne : Lit.int .i64 x ≠ Lit.int .i64 e.i := fun h => he (by injection h with _ h; exact h.symm)
      obtain ⟨a, ha, hax⟩ := hx
      have ha2 : a ∈ F := by
        rcases List.mem_append.1 ha with ha | ha
        · exact ha
        · simp at ha
          subst ha
          exact absurd hax he
      obtain ⟨q1, b, hb, hbx, q2⟩ := h1 x ⟨a, ha2, hax⟩
      exact ⟨(has_put_other hne _).trans q1, b, List.mem_append_left _ hb, hbx, fun z => (atKey_put_other hne _ z).trans (q2 z)⟩
  · have he : ¬ e.i = x := fun he => hx ⟨e, by simp, he⟩
    have hne : Lit.int .i64 x ≠ Lit.int .i64 e.i := fun h => he (by injection h with _ h; exact h.symm)
    obtain ⟨q1, q2⟩ := h2 x (fun ⟨a, ha, hax⟩ => hx ⟨a, List.mem_append_left _ ha, hax⟩)
    exact ⟨(has_put_other hne _).trans q1, fun z => (atKey_put_other hne _ z).trans (q2 z)⟩
end
end Go.Proofs.Ytpgnappddddlpaa
namespace Go.Proofs.Ytpgnappddddlpaa
open Go.RowKit Go.Maps

theorem pos_succ {s t : Nat} (h : t < s) : ∃ m, s = m + 1 := ⟨s - 1, by omega⟩
theorem Try.laidOutR : laidOutB Try.prog = true := by kernel_rfl
theorem Try.rowR : (150 : TypeId) < Try.prog.types.size := of_decide_eq_true (by kernel_rfl)
theorem Try.wideR : (match Try.prog.underlying 150 with | some (.array _ _) | some (.struct _) => true | _ => false) = true := by rw [Try.underlying150]
set_option maxRecDepth 100000 in
theorem Try.keyedRec : Keyed Try.prog 150 := Keyed.of_law (deep_law_laid Try.laidOutR (m := 2) (by omega) Try.rowR (by kernel_rfl) Try.wideR)
theorem Try.cellsR : Try.prog.cellsOf 150 = 3 := by kernel_rfl
theorem Try.cellsRI : Try.prog.cellsOf 3 = 1 := by kernel_rfl
theorem Try.keyTypeR : Try.prog.keyType 150 = true := by kernel_rfl

def recLit (a b c : Int) : Lit := .string (keyBytes [.int .i64 a, .int .i64 b, .int .i64 c])
theorem keyRec {a b c : Int} (h1 : (Lit.int .i64 a).wf = true) (h2 : (Lit.int .i64 b).wf = true) (h3 : (Lit.int .i64 c).wf = true) : keyOf Try.prog 150 (.agg #[.int .i64 a, .int .i64 b, .int .i64 c]) = some (recLit a b c) := by
  obtain ⟨m, hm⟩ : ∃ m, Try.prog.types.size = m + 1 := pos_succ Try.rowR
  unfold keyOf
  simp only [Try.underlying150]
  rw [if_pos (by simp [Try.keyTypeR, Value.formed, Try.underlying150, Try.cellsR]), hm]
  unfold Program.keyLits
  simp only [Try.underlying150, Value.cells]
  rw [if_pos (by simp [Try.cellsR])]
  simp [Program.keyLits, Try.underlying3, Try.cellsRI, h1, h2, h3, recLit]
theorem recLit_ne {a b c a' b' c' : Int} (h1 : (Lit.int .i64 a).wf = true) (h2 : (Lit.int .i64 b).wf = true) (h3 : (Lit.int .i64 c).wf = true) (h1' : (Lit.int .i64 a').wf = true) (h2' : (Lit.int .i64 b').wf = true) (h3' : (Lit.int .i64 c').wf = true) (hne : c ≠ c') : recLit a b c ≠ recLit a' b' c' := fun h => by
  have e1 := keyRec h1 h2 h3
  have e2 := keyRec h1' h2' h3'
  rw [← h] at e2
  have := Try.keyedRec.inj e1 e2
  simp at this
  exact hne this.2.2

theorem wf_mid {x : Int} (h0 : 0 ≤ x) (h1 : x ≤ 1000000000) : (Lit.int .i64 x).wf = true := by
  unfold Lit.wf
  rw [Bool.and_eq_true, decide_eq_true_iff, decide_eq_true_iff]
  constructor
  · exact Int.le_trans (by decide) h0
  · exact Int.le_trans h1 (by decide)
theorem rec_wf {N : Int} {es : List GE} {ends : List Int} {j : Nat} {x : GE} (h1 : graphB N es = true) (h2 : endsB N ends = true) (hm : ends.length ≤ 1048576) (h : es[j]? = some x) : (Lit.int .i64 (ivE ends x.t)).wf = true ∧ (Lit.int .i64 x.f).wf = true ∧ (Lit.int .i64 (j : Int)).wf = true := by
  have hg := graphB_iff h1
  have hed := edgeB_iff (hg.2.2.2 x (List.mem_of_getElem? h))
  have hen := endsB_iff h2
  have hr := iv_range (xs := ends) (v := x.t) hed.2.2.1 (by rw [hen.2.2.2]; exact hed.2.2.2.1)
  have hj := (List.getElem?_eq_some_iff.1 h).1
  exact ⟨wf_mid hr.1 (by omega), wf_mid hed.1 (by omega), wf_mid (by omega) (by omega)⟩

/-- Block mb is a map that bears the first k edges, each under its record. -/
structure ByRec (w : World) (mb n : Nat) (ends : List Int) (es : List GE) (k : Nat) : Prop where
  map : ∃ D : DataW Value, w.ownsMap Try.prog 150 rawE mb n D ∧ IsMap D ∧
    (∀ (j : Nat) (e : GE), j < k → es[j]? = some e → ∀ z, D.atKey (recLit (ivE ends e.t) e.f (j : Int)) z = .held e.v)
section
variable {w w' : World} {mb n k : Nat} {ends : List Int} {es : List GE}
theorem ByRec.new (w : World) (ends : List Int) (es : List GE) : ByRec (w.alloc (.map #[] 0)) w.heap.size 0 ends es 0 :=
  ⟨.map [], World.ownsMap_made _ _ _ _, isMap_empty, fun j e h => by omega⟩
theorem ByRec.kept {row : Option Nat} (h : ByRec w mb n ends es k) (hg : w.grownBy w' row) (hne : some mb ≠ row) : ByRec w' mb n ends es k := by
  obtain ⟨D, h1, h2⟩ := h.map
  exact ⟨D, h1.kept hg hne, h2⟩
theorem ByRec.below (h : ByRec w mb n ends es k) (hb : Below w.heap.size w w') : ByRec w' mb n ends es k := h.kept (grownBy_of_below hb none) (by simp)
theorem ByRec.only (h : ByRec w mb n ends es k) (hk : w'.heap[mb]? = w.heap[mb]?) : ByRec w' mb n ends es k := by
  obtain ⟨D, ⟨a, clock, hb, F, hs, hD⟩, h2⟩ := h.map
  exact ⟨D, ⟨a, clock, hk.trans hb, F, hs, hD⟩, h2⟩
theorem ByRec.lt (h : ByRec w mb n ends es k) : mb < w.heap.size := by
  obtain ⟨D, h1, _⟩ := h.map
  exact h1.lt
theorem ByRec.put {D : DataW Value} {e : GE} (he : es[k]? = some e) (hw : ∀ (j : Nat) (x : GE), j ≤ k → es[j]? = some x → (Lit.int .i64 (ivE ends x.t)).wf = true ∧ (Lit.int .i64 x.f).wf = true ∧ (Lit.int .i64 (j : Int)).wf = true)
    (ho : w'.ownsMap Try.prog 150 rawE mb (n + 1) (D.put (recLit (ivE ends e.t) e.f (k : Int)) (.held e.v))) (hm : IsMap D)
    (h1 : ∀ (j : Nat) (e : GE), j < k → es[j]? = some e → ∀ z, D.atKey (recLit (ivE ends e.t) e.f (j : Int)) z = .held e.v) : ByRec w' mb (n + 1) ends es (k + 1) := by
  refine ⟨_, ho, hm.put _ _, fun j x hj hx z => ?_⟩
  rcases Nat.lt_or_ge j k with hjk | hjk
  · obtain ⟨a1, a2, a3⟩ := hw j x (by omega) hx
    obtain ⟨b1, b2, b3⟩ := hw k e (Nat.le_refl _) he
    exact (atKey_put_other (recLit_ne a1 a2 a3 b1 b2 b3 (by omega)) _ z).trans (h1 j x hjk hx z)
  · obtain rfl : j = k := by omega
    rw [he] at hx
    injection hx with hx
    subst hx
    exact atKey_put_same hm (k := recLit (ivE ends e.t) e.f (j : Int)) trivial _ z
end
end Go.Proofs.Ytpgnappddddlpaa
namespace Go.Proofs.Ytpgnappddddlpaa
open Go.RowKit

set_option maxRecDepth 10000 in
set_option maxHeartbeats 1000000 in
theorem specEndsOk (N : Int) (A : Option Addr) (n c : Nat) (es : List Int) (w : World) (hr : SlI w A n es) (hn : n ≤ 1048576) :
    Calls Try.prog 65 #[.int .i64 N, .slice A n c] w (GTell w (endsB N es)) := by
  have HR := Lib.hid hr
  have HL := Lib.hid hr.len
  clear hr
  go_enter Try.func65, Try.ntmps65
  go_wp2
  go_loop [5, 10] (fun v i => ∃ k : Nat, k ≤ n ∧ i = .int .i64 k ∧ v = .int .i64 (lastE 0 (es.take k)) ∧ Hid (ascB 0 (es.take k) = true)) (fun _ i => n - (intOf i).toNat)
  case atStart => exact ⟨0, Nat.zero_le _, rfl, rfl, Lib.hid rfl⟩
  case round =>
    obtain ⟨k, hk, rfl, rfl, hasc⟩ := hrel
    by_cases hlt : k < n
    · obtain ⟨b, off, x, rfl, hbw, hx, hc⟩ := HR.out.at_ hlt
      have HS := Lib.hid (asc_step hx.out hasc.out)
      have HT := Lib.hid (last_step (l := 0) hx.out)
      have HN := Lib.hid (fun h => ends_no (n := N) rfl hx.out hasc.out h)
      clear hasc hx
      generalize lastE 0 (es.take k) = q at HS HN ⊢
      by_cases hq : x ≤ q
      · have HV := Lib.hid (HN.out hq)
        clear HN HS HT
        go_wp2
        go_ret
        exact ⟨by rw [HV.out] <;> rfl, Below.refl _ _⟩
      · have HS2 : Hid (ascB 0 (es.take (k + 1)) = true) := Lib.hid (by rw [HS.out]; simp; omega)
        clear HN HS
        go_wp2
        go_round
        case rel => exact ⟨k + 1, by omega, by go_num, by rw [HT.out], HS2⟩
        case measure => simp [intOf]; omega
    · obtain rfl : k = n := by omega
      have he : es.take k = es := List.take_of_length_le (by rw [HL.out]; exact Nat.le_refl _)
      rw [he] at hasc ⊢
      have HV := Lib.hid (ends_yes (n := N) hasc.out)
      clear hasc he
      generalize lastE 0 es = q at HV ⊢
      by_cases h1 : 0 ≤ N
      · by_cases h2 : N ≤ 150
        · by_cases h3 : q = N
          · have HW : Hid (endsB N es = true) := Lib.hid (by rw [HV.out]; simp; omega)
            go_wp2
            go_ret
            exact ⟨by rw [HW.out] <;> rfl, Below.refl _ _⟩
          · have HW : Hid (endsB N es = false) := Lib.hid (by rw [HV.out]; simp; omega)
            have h4 : (q == N) = false := by simp; omega
            go_wp2
            go_ret
            exact ⟨by rw [HW.out] <;> rfl, Below.refl _ _⟩
        · have HW : Hid (endsB N es = false) := Lib.hid (by rw [HV.out]; simp; omega)
          go_wp2
          go_ret
          exact ⟨by rw [HW.out] <;> rfl, Below.refl _ _⟩
      · have HW : Hid (endsB N es = false) := Lib.hid (by rw [HV.out]; simp; omega)
        go_wp2
        go_ret
        exact ⟨by rw [HW.out] <;> rfl, Below.refl _ _⟩

theorem iv_no {es : List Int} {v : Int} (h : v < 0 ∨ es = [] ∨ lastE 0 es ≤ v) : ivE es v = -1 := if_pos h
theorem iv_yes {es : List Int} {v : Int} (h1 : 0 ≤ v) (h2 : es ≠ []) (h3 : v < lastE 0 es) : ivE es v = cntE v es := if_neg (by rintro (h | h | h); omega; exact h2 h; omega)

set_option maxRecDepth 10000 in
set_option maxHeartbeats 1000000 in
theorem specIv (A : Option Addr) (n c : Nat) (es : List Int) (v : Int) (w : World) (hr : SlI w A n es) (hn : n ≤ 1048576) :
    Calls Try.prog 118 #[.slice A n c, .int .i64 v] w (GNum w (ivE es v)) := by
  have HR := Lib.hid hr
  have HL := Lib.hid hr.len
  have hl := hr.len
  clear hr
  by_cases hv : v < 0
  · have HV := Lib.hid (iv_no (es := es) (.inl hv))
    go_enter Try.func118, Try.ntmps118
    go_wp2
    go_ret
    exact ⟨by rw [HV.out] <;> rfl, Below.refl _ _⟩
  · by_cases h0 : n = 0
    · subst h0
      obtain rfl : es = [] := List.eq_nil_of_length_eq_zero hl
      have HV := Lib.hid (iv_no (es := []) (v := v) (.inr (.inl rfl)))
      go_enter Try.func118, Try.ntmps118
      go_wp2
      go_ret
      exact ⟨by rw [HV.out] <;> rfl, Below.refl _ _⟩
    · obtain ⟨j, rfl⟩ : ∃ j, n = j + 1 := ⟨n - 1, by omega⟩
      obtain ⟨b, off, x, rfl, hbw, hx, hc⟩ := HR.out.at_ (j := j) (by omega)
      obtain rfl : lastE 0 es = x := by
        have h1 := lastE_get es 0 j hl
        rw [hx.out] at h1
        injection h1 with h1
        exact h1.symm
      have hne : es ≠ [] := fun h => by rw [h] at hl; simp at hl
      have e1 : ((j + 1 : Nat) : Int) - 1 = (j : Int) := by omega
      have e2 : IntKind.i64.wrap (((j + 1 : Nat) : Int) - 1) = (j : Int) := by rw [e1]; exact IntWalk.i64_in _ (by omega)
      have HA := Lib.hid (fun h => iv_no (es := es) (v := v) (.inr (.inr h)))
      have HB := Lib.hid (fun h => iv_yes (es := es) (v := v) (by omega) hne h)
      clear hx hne hl
      generalize lastE 0 es = q at HA HB hc
      by_cases hq : q ≤ v
      · have HV := Lib.hid (HA.out hq)
        clear HA HB
        go_enter Try.func118, Try.ntmps118
        go_wp2
        go_ret
        exact ⟨by rw [HV.out] <;> rfl, Below.refl _ _⟩
      · have HV := Lib.hid (HB.out (by omega))
        clear HA HB
        go_enter Try.func118, Try.ntmps118
        go_wp2
        go_loop [5, 25] (fun p i => ∃ k : Nat, k ≤ j + 1 ∧ i = .int .i64 k ∧ p = .int .i64 (cntE v (es.take k))) (fun _ i => (j + 1) - (intOf i).toNat)
        case atStart => exact ⟨0, Nat.zero_le _, rfl, rfl⟩
        case round =>
          obtain ⟨k, hk, rfl, rfl⟩ := hrel
          by_cases hlt : k < j + 1
          · obtain ⟨b', off', x, hA, hbw', hx, hc'⟩ := HR.out.at_ hlt
            obtain ⟨rfl, rfl⟩ : b = b' ∧ off = off' := by injection hA with hA; injection hA with h1 h2; exact ⟨h1, h2⟩
            have hb := cnt_bound v (es.take k)
            have hlk : ((es.take k).length : Int) ≤ 1048576 := by rw [List.length_take]; omega
            have HC := Lib.hid (cnt_step (v := v) hx.out)
            clear hx hA
            generalize cntE v (es.take k) = p at HC hb ⊢
            by_cases hxv : x ≤ v
            · have HC2 : Hid (cntE v (es.take (k + 1)) = p + 1) := Lib.hid (by rw [HC.out, if_pos hxv])
              go_wp2
              go_round
              case rel => exact ⟨k + 1, by omega, by go_num, by rw [HC2.out] <;> go_num⟩
              case measure => simp [intOf]; omega
            · have HC2 : Hid (cntE v (es.take (k + 1)) = p) := Lib.hid (by rw [HC.out, if_neg hxv]; omega)
              go_wp2
              go_round
              case rel => exact ⟨k + 1, by omega, by go_num, by rw [HC2.out]⟩
              case measure => simp [intOf]; omega
          · obtain rfl : k = j + 1 := by omega
            have he : es.take (j + 1) = es := List.take_of_length_le (by rw [HL.out]; exact Nat.le_refl _)
            rw [he]
            go_wp2
            go_ret
            exact ⟨by rw [HV.out] <;> rfl, Below.refl _ _⟩

set_option maxRecDepth 10000 in
set_option maxHeartbeats 1000000 in
theorem implIv (A : Option Addr) (n c : Nat) (es : List Int) (v : Int) (w : World) (hr : SlI w A n es) (hn : n ≤ 1048576) :
    Calls Try.prog 124 #[.slice A n c, .int .i64 v] w (GNum w (ivE es v)) := by
  have HR := Lib.hid hr
  have HL := Lib.hid hr.len
  have hl := hr.len
  clear hr
  by_cases h0 : n = 0
  · subst h0
    obtain rfl : es = [] := List.eq_nil_of_length_eq_zero hl
    have HV := Lib.hid (iv_no (es := []) (v := v) (.inr (.inl rfl)))
    go_enter Try.func124, Try.ntmps124
    go_wp2
    go_ret
    exact ⟨by rw [HV.out] <;> rfl, Below.refl _ _⟩
  · have hz : ((n : Int) == 0) = false := by simp; omega
    by_cases hv : v < 0
    · have HV := Lib.hid (iv_no (es := es) (.inl hv))
      go_enter Try.func124, Try.ntmps124
      go_wp2
      go_ret
      exact ⟨by rw [HV.out] <;> rfl, Below.refl _ _⟩
    · obtain ⟨j, rfl⟩ : ∃ j, n = j + 1 := ⟨n - 1, by omega⟩
      obtain ⟨b, off, x, rfl, hbw, hx, hc⟩ := HR.out.at_ (j := j) (by omega)
      obtain rfl : lastE 0 es = x := by
        have h1 := lastE_get es 0 j hl
        rw [hx.out] at h1
        injection h1 with h1
        exact h1.symm
      have hne : es ≠ [] := fun h => by rw [h] at hl; simp at hl
      have e1 : ((j + 1 : Nat) : Int) - 1 = (j : Int) := by omega
      have e2 : IntKind.i64.wrap (((j + 1 : Nat) : Int) - 1) = (j : Int) := by rw [e1]; exact IntWalk.i64_in _ (by omega)
      have HA := Lib.hid (fun h => iv_no (es := es) (v := v) (.inr (.inr h)))
      have HB := Lib.hid (fun h => iv_yes (es := es) (v := v) (by omega) hne h)
      clear hx hne hl
      generalize lastE 0 es = q at HA HB hc
      by_cases hq : q ≤ v
      · have HV := Lib.hid (HA.out hq)
        clear HA HB
        go_enter Try.func124, Try.ntmps124
        go_wp2
        go_ret
        exact ⟨by rw [HV.out] <;> rfl, Below.refl _ _⟩
      · have HV := Lib.hid (HB.out (by omega))
        clear HA HB
        go_enter Try.func124, Try.ntmps124
        go_wp2
        go_loop [5, 27] (fun p i => ∃ k : Nat, k ≤ j + 1 ∧ i = .int .i64 k ∧ p = .int .i64 (cntE v (es.take k))) (fun _ i => (j + 1) - (intOf i).toNat)
        case atStart => exact ⟨0, Nat.zero_le _, rfl, rfl⟩
        case round =>
          obtain ⟨k, hk, rfl, rfl⟩ := hrel
          by_cases hlt : k < j + 1
          · obtain ⟨b', off', x, hA, hbw', hx, hc'⟩ := HR.out.at_ hlt
            obtain ⟨rfl, rfl⟩ : b = b' ∧ off = off' := by injection hA with hA; injection hA with h1 h2; exact ⟨h1, h2⟩
            have hb := cnt_bound v (es.take k)
            have hlk : ((es.take k).length : Int) ≤ 1048576 := by rw [List.length_take]; omega
            have HC := Lib.hid (cnt_step (v := v) hx.out)
            clear hx hA
            generalize cntE v (es.take k) = p at HC hb ⊢
            by_cases hxv : x ≤ v
            · have HC2 : Hid (cntE v (es.take (k + 1)) = p + 1) := Lib.hid (by rw [HC.out, if_pos hxv])
              go_wp2
              go_round
              case rel => exact ⟨k + 1, by omega, by go_num, by rw [HC2.out] <;> go_num⟩
              case measure => simp [intOf]; omega
            · have HC2 : Hid (cntE v (es.take (k + 1)) = p) := Lib.hid (by rw [HC.out, if_neg hxv]; omega)
              go_wp2
              go_round
              case rel => exact ⟨k + 1, by omega, by go_num, by rw [HC2.out]⟩
              case measure => simp [intOf]; omega
          · obtain rfl : k = j + 1 := by omega
            have he : es.take (j + 1) = es := List.take_of_length_le (by rw [HL.out]; exact Nat.le_refl _)
            rw [he]
            go_wp2
            go_ret
            exact ⟨by rw [HV.out] <;> rfl, Below.refl _ _⟩

set_option maxRecDepth 10000 in
set_option maxHeartbeats 1000000 in
theorem specSpan (A : Option Addr) (n c : Nat) (es : List Int) (p : Int) (w : World) (hr : SlI w A n es) (hn : n ≤ 1048576) :
    Calls Try.prog 66 #[.slice A n c, .int .i64 p] w fun e w' => e = .returned (.tuple #[.int .i64 (spanR es p).1, .int .i64 (spanR es p).2]) ∧ Below w.heap.size w w' := by
  have HR := Lib.hid hr
  have hl := hr.len
  clear hr
  by_cases hp : p < 0
  · have HV := Lib.hid (span_no (xs := es) (.inl hp))
    rw [HV.out]
    go_enter Try.func66, Try.ntmps66
    go_wp2
    go_ret2
    exact ⟨rfl, Below.refl _ _⟩
  · by_cases hp2 : (n : Int) ≤ p
    · have HV := Lib.hid (span_no (xs := es) (p := p) (.inr (by omega)))
      rw [HV.out]
      go_enter Try.func66, Try.ntmps66
      go_wp2
      go_ret2
      exact ⟨rfl, Below.refl _ _⟩
    · obtain ⟨k, rfl⟩ : ∃ k : Nat, p = (k : Int) := ⟨p.toNat, by omega⟩
      obtain ⟨b, off, x, rfl, hbw, hx, hc⟩ := HR.out.at_ (j := k) (by omega)
      have HV := Lib.hid (span_yes hx.out)
      rw [HV.out]
      rcases Nat.eq_zero_or_pos k with rfl | hk
      · clear hx HV
        simp only [Nat.add_zero] at hc
        have h0n : 0 < n := by omega
        go_enter Try.func66, Try.ntmps66
        go_wp2
        go_region
        go_wp2
        go_ret2
        exact ⟨rfl, by first | exact Below.refl _ _ | exact (Below.refl _ _).drew⟩
      · obtain ⟨j, rfl⟩ : ∃ j, k = j + 1 := ⟨k - 1, by omega⟩
        obtain ⟨b', off', y, hA, hbw', hy, hc'⟩ := HR.out.at_ (j := j) (by omega)
        obtain ⟨rfl, rfl⟩ : b = b' ∧ off = off' := by injection hA with hA; injection hA with h1 h2; exact ⟨h1, h2⟩
        have hz : (((j + 1 : Nat) : Int) == 0) = false := by simp; omega
        have e1 : ((j + 1 : Nat) : Int) - 1 = (j : Int) := by omega
        have e2 : IntKind.i64.wrap (((j + 1 : Nat) : Int) - 1) = (j : Int) := by rw [e1]; exact IntWalk.i64_in _ (by omega)
        rw [lastE_take_succ hy.out]
        clear hx HV hy hA
        go_enter Try.func66, Try.ntmps66
        go_wp2
        go_region
        go_wp2
        go_ret2
        exact ⟨rfl, by first | exact Below.refl _ _ | exact (Below.refl _ _).drew | exact (Below.refl _ _).drew.drew⟩
end Go.Proofs.Ytpgnappddddlpaa
namespace Go.Proofs.Ytpgnappddddlpaa
open Go.RowKit Go.Shelf
attribute [local go_sem] Oper.semAt_some

theorem box_own {W W' : World} {row : Option Nat} {B : Nat} {t : TypeId} {v : Value} (h : Boxed W B t v) (hg : W.grownBy W' row) (hr : ∀ r, row = some r → ∃ o : Obj, W.heap[r]? = some o ∧ o.isCells = false) : Boxed W' B t v :=
  h.kept hg (fun e => by
    obtain ⟨o, ho, hc⟩ := hr B e.symm
    rw [show W.heap[B]? = _ from h] at ho
    cases ho
    cases hc)

set_option maxRecDepth 100000 in
set_option maxHeartbeats 2000000 in
theorem implEndsOk_in (F : Fence) (m : Nat) (h1 : F.fn 122) (h2 : F.fn 153) (h3 : F.fn 163) (hro : F.round = none) (hm : 3 ≤ m) (N : Int) (A : Option Addr) (n c : Nat) (es : List Int) (w : World) (hI : SlI w A n es) (hn : n ≤ 1048576) :
    CallsIn F m Try.prog 122 #[.int .i64 N, .slice A n c] w (GTell w (endsB N es)) := by
  have hm1 : 1 ≤ m := by omega
  have HL := Lib.hid hI.len
  have HI := Lib.hid hI
  clear hI
  refine callsIn_of_wp_marks Try.func122 rfl h1 ?_ hro
  simp only [Try.ntmps122, List.size_toArray, List.length_cons, List.length_nil, Nat.reduceAdd, Nat.reduceSub, Array.replicate_succ, Array.replicate_zero, List.push_toArray, List.append_toArray, List.nil_append, List.cons_append]
  gi_wp2_with (gi_at_call 153; refine (spans_in F (m - 1) h2 hro _ _ _ _).mono ?_; rintro e w' ⟨rfl, rfl⟩)
  have bR := (Boxed.new w 4 (.bool false)).alloc (.cells #[.int .i64 0] 3)
  have bL := Boxed.new (w.alloc (.cells #[.bool false] 4)) 3 (.int .i64 0)
  have bN := Boxed.new ((w.alloc (.cells #[.bool false] 4)).alloc (.cells #[.int .i64 0] 3)) 23 (.slice A n c)
  rw [World.size_alloc] at bL bN
  rw [World.size_alloc] at bN
  have hB0 : Below w.heap.size w (((w.alloc (.cells #[.bool false] 4)).alloc (.cells #[.int .i64 0] 3)).alloc (.cells #[.slice A n c] 23)) := below_a3 _ _ _ _
  refine wpIn_rangeFunc_ownG hro hm1 (gf := 163) (lb := #[.pointer (some ⟨w.heap.size + 1 + 1, 0, none⟩)]) rfl h3 (enters_of Try.func163 (by kernel_rfl) rfl)
    (spans_stops id (pairsE 0 es) F (m - 1) h3 hro (by omega) (w.heap.size + 1 + 1) A n c es (List.map_id _) w HI.out hn _ hB0 (by simp) bN.cell) belowK_t (belowK_b (by simp; omega)) (Below.refl _ _) (fun _ => rfl)
    (fun pre W => (Boxed W w.heap.size 4 (.bool false) ∧ upP pre ∧ Boxed W (w.heap.size + 1) 3 (.int .i64 (lastP pre))) ∧ Below w.heap.size w W)
    (fun c pre W => (c = .ret ∧ dnP pre ∧ Boxed W w.heap.size 4 (.bool false)) ∧ Below w.heap.size w W)
    (OwnFrom.and (Own.from (fun s A B row hs hg hr => ⟨box_own hs.1 hg hr, hs.2.1, box_own hs.2.2 hg hr⟩) _) (ownFrom_below (Nat.le_refl _) (by simp; omega)))
    (fun c => OwnFrom.and (Own.from (fun s A B row hs hg hr => ⟨hs.1, hs.2.1, box_own hs.2.2 hg hr⟩) _) (ownFrom_below (Nat.le_refl _) (by simp; omega)))
    ⟨⟨bR.alloc _, by intro p hp; simp at hp, bL.alloc _⟩, hB0⟩
    (fun x => { tmps := #[.int .i64 N, .slice A n c, undef, undef, .pointer (some ⟨w.heap.size, 0, none⟩), .pointer (some ⟨w.heap.size + 1, 0, none⟩), .int .i64 x.1, .int .i64 x.2, .slice A n c, .func (.func 163) #[] #[.pointer (some ⟨w.heap.size + 1 + 1, 0, none⟩)], .int .i64 x.1, .int .i64 x.2, undef, undef, undef, undef, undef, undef, undef, undef, undef, undef, undef, undef, undef, undef, undef], defers := [] }) ?assign ?body ?done ?stop
  case assign =>
    intro l x W K hK
    gi_wp2
    exact hK
  case body =>
    rintro l pre ⟨lo, hi⟩ W ⟨⟨bR, hall, bL⟩, hB⟩ _
    have hc := bL.cell
    have hf := bL.frozen
    have hd := bR.cell
    have hg := bR.frozen
    by_cases hx : hi ≤ lo
    · gi_wp2
      exact ⟨(KeepsOthers.setCell _ _ _).from _, ⟨rfl, dnP_snoc hx, bR.set _⟩, hB.setCell (p := ⟨w.heap.size, 0, none⟩) (Nat.le_refl _) _⟩
    · gi_wp2
      exact ⟨(KeepsOthers.setCell _ _ _).from _, (Below.refl w.heap.size W).setCell (p := ⟨w.heap.size + 1, 0, none⟩) (by simp) _, ⟨bR.other (by omega) _, upP_snoc hall (by omega), by rw [lastP_snoc]; exact bL.set _⟩, hB.setCell (p := ⟨w.heap.size + 1, 0, none⟩) (by simp) _⟩
  case done =>
    rintro D ys W hD rfl ⟨⟨bR, hall, bL⟩, hB⟩ hK
    have HV := Lib.hid (ends_yes (n := N) (asc_pairs es 0 hall))
    rw [lastP_pairs] at bL
    clear hall
    generalize lastE 0 es = q at HV bL
    have hc := bL.cell
    have hd := bR.cell
    have hf := bR.frozen
    have fin : ∀ (W' : World) (b : Bool), W'.heap[D]? = some (.deferred (some [])) → Boxed W' w.heap.size 4 (.bool b) → (W'.putObj D (.deferred none)).cell? ⟨w.heap.size, 0, none⟩ = some (.bool b) := fun W' b h1 h2 =>
      cell_kept h2.cell (grownBy_putObj' _ D (.deferred none)) (fun r e => by cases e; exact ⟨_, h1, rfl⟩)
    have hBT := hB.setCell (p := ⟨w.heap.size, 0, none⟩) (Nat.le_refl _) (.bool true)
    have hBF := hB.setCell (p := ⟨w.heap.size, 0, none⟩) (Nat.le_refl _) (.bool false)
    have hKT := (KeepsOthers.setCell W ⟨w.heap.size, 0, none⟩ (.bool true)).same D _ hK rfl
    have hKF := (KeepsOthers.setCell W ⟨w.heap.size, 0, none⟩ (.bool false)).same D _ hK rfl
    by_cases h1 : 0 ≤ N
    · by_cases h2 : N ≤ 150
      · by_cases h3 : q = N
        · have HW : Hid (endsB N es = true) := Lib.hid (by rw [HV.out]; simp; omega)
          gi_wp2
          refine ⟨by simp, .inl ⟨_, _, rfl, run_takeDeferred hKT, ?_⟩⟩
          have hc5 := fin _ true hKT (bR.set _)
          exact ⟨.bool true, by simp [results, Try.f122, go_sem, hc5], by rw [HW.out], hBT.trans (belowK_b (w := w) (Nat.le_refl _) _ D _ _ (by simp at hD; omega) hKT rfl rfl)⟩
        · have HW : Hid (endsB N es = false) := Lib.hid (by rw [HV.out]; simp; omega)
          have h4 : (q == N) = false := by simp; omega
          gi_wp2
          refine ⟨by simp, .inl ⟨_, _, rfl, run_takeDeferred hKF, ?_⟩⟩
          have hc5 := fin _ false hKF (bR.set _)
          exact ⟨.bool false, by simp [results, Try.f122, go_sem, hc5], by rw [HW.out], hBF.trans (belowK_b (w := w) (Nat.le_refl _) _ D _ _ (by simp at hD; omega) hKF rfl rfl)⟩
      · have HW : Hid (endsB N es = false) := Lib.hid (by rw [HV.out]; simp; omega)
        gi_wp2
        refine ⟨by simp, .inl ⟨_, _, rfl, run_takeDeferred hKF, ?_⟩⟩
        have hc5 := fin _ false hKF (bR.set _)
        exact ⟨.bool false, by simp [results, Try.f122, go_sem, hc5], by rw [HW.out], hBF.trans (belowK_b (w := w) (Nat.le_refl _) _ D _ _ (by simp at hD; omega) hKF rfl rfl)⟩
    · have HW : Hid (endsB N es = false) := Lib.hid (by rw [HV.out]; simp; omega)
      gi_wp2
      refine ⟨by simp, .inl ⟨_, _, rfl, run_takeDeferred hKF, ?_⟩⟩
      have hc5 := fin _ false hKF (bR.set _)
      exact ⟨.bool false, by simp [results, Try.f122, go_sem, hc5], by rw [HW.out], hBF.trans (belowK_b (w := w) (Nat.le_refl _) _ D _ _ (by simp at hD; omega) hKF rfl rfl)⟩
  case stop =>
    rintro D c pre W hD ⟨k, _, rfl⟩ ⟨⟨rfl, ⟨p, hp1, hp2⟩, bR⟩, hB⟩ hK
    have hE : endsB N es = false := by
      rw [pairsE_take] at hp1
      unfold endsB
      rw [asc_no (asc_pairs_no _ _ p hp1 hp2)]
      rfl
    gi_wp2
    refine ⟨by simp, .inl ⟨_, _, rfl, run_takeDeferred hK, ?_⟩⟩
    have hc5 := cell_kept bR.cell (grownBy_putObj' _ D (.deferred none)) (fun r e => by cases e; exact ⟨_, hK, rfl⟩)
    exact ⟨.bool false, by simp [results, Try.f122, go_sem, hc5], by rw [hE], hB.trans (belowK_b (w := w) (Nat.le_refl _) W D _ _ (by simp at hD; omega) hK rfl rfl)⟩
theorem implEndsOk (N : Int) (A : Option Addr) (n c : Nat) (es : List Int) (w : World) (hI : SlI w A n es) (hn : n ≤ 1048576) :
    Calls Try.prog 122 #[.int .i64 N, .slice A n c] w (GTell w (endsB N es)) :=
  callsIn_wide.1 (implEndsOk_in Fence.wide 3 trivial trivial trivial rfl (Nat.le_refl _) N A n c es w hI hn)

def noP (p : Int) (ps : List (Int × Int)) : Prop := ∀ j : Nat, j < ps.length → (j : Int) ≠ p
def atP (p : Int) (x : Int × Int) (ps : List (Int × Int)) : Prop := ∃ k : Nat, p = (k : Int) ∧ ps[k]? = some x
theorem noP_snoc {p : Int} {ps : List (Int × Int)} {x : Int × Int} (h : noP p ps) (hx : (ps.length : Int) ≠ p) : noP p (ps ++ [x]) := fun j hj => by
  rw [List.length_append] at hj
  simp at hj
  rcases Nat.lt_or_ge j ps.length with h1 | h1
  · exact h j h1
  · obtain rfl : j = ps.length := by omega
    exact hx
theorem atP_snoc {p : Int} {ps : List (Int × Int)} {x : Int × Int} (hx : (ps.length : Int) = p) : atP p x (ps ++ [x]) := ⟨ps.length, hx.symm, by simp⟩
theorem noP_span {p : Int} {es : List Int} (h : noP p (pairsE 0 es)) : spanR es p = (0, 0) := by
  refine span_no ?_
  by_cases h1 : p < 0
  · exact .inl h1
  · refine .inr ?_
    by_cases h2 : p < es.length
    · exact absurd (by omega) (h p.toNat (by rw [pairsE_len]; omega))
    · omega
theorem atP_span {p : Int} {x : Int × Int} {es : List Int} {k : Nat} (h : atP p x ((pairsE 0 es).take k)) : spanR es p = x := by
  obtain ⟨j, rfl, h⟩ := h
  rw [List.getElem?_take] at h
  split at h
  · have hj := (List.getElem?_eq_some_iff.1 h).1
    rw [pairsE_len] at hj
    have he : es[j]? = some es[j] := List.getElem?_eq_getElem hj
    rw [pairsE_get es 0 j _ he] at h
    injection h with h
    rw [span_yes he, h]
  · cases h

def TwoP (w : World) (r : Int × Int) (e : Ending) (w' : World) : Prop := e = .returned (.tuple #[.int .i64 r.1, .int .i64 r.2]) ∧ Below w.heap.size w w'

end Go.Proofs.Ytpgnappddddlpaa
