/- Plain mathematics of disks: what doing an operation, making all safe and losing power leave is a valid disk again (no program; no condition). -/
import Derived.Test.YtejibpajjoaldaaC11
namespace Go.Proofs.Ytejibpajjoaldaa
open Go.RowKit Go.Maps

/-! ### names in order -/
theorem gtN_yes {a b : ByteArray} (h : gtN a b = true) : ltB b a = true := by
  unfold gtN at h
  have h1 : Op.bytesLess a.toList b.toList = false := by
    cases hh : Op.bytesLess a.toList b.toList with
    | false => rfl
    | true => rw [hh] at h; simp at h
  have h2 : (a.toList == b.toList) = false := by
    cases hh : (a.toList == b.toList) with
    | false => rfl
    | true => rw [hh] at h; simp at h
  have hne : a.data.toList ≠ b.data.toList := fun e => by
    have := data_inj e
    subst this
    simp at h2
  rcases WideAt.bytes_total _ _ hne with h3 | h3
  · rw [← ltB_before] at h3
    unfold ltB at h3
    rw [h3] at h1
    cases h1
  · rw [ltB_before]
    exact h3
theorem gtN_no {a b : ByteArray} (h : gtN a b = false) (hne : a ≠ b) : ltB a b = true := by
  unfold gtN at h
  cases hh : Op.bytesLess a.toList b.toList with
  | true => unfold ltB; exact hh
  | false =>
    rw [hh] at h
    have h2 : a.toList = b.toList := by simpa using h
    rw [ByteArray.toList_eq, ByteArray.toList_eq] at h2
    exact absurd (data_inj h2) hne
theorem less_rises {s : ByteArray} {l : List FileD} (h : Rises l) : Rises (lessF s l) := by
  unfold Rises lessF lessK at *
  exact h.filter _
theorem ins_rises {x : FileD} : ∀ {l : List FileD}, Rises l → (∀ e ∈ l, e.1 ≠ x.1) → Rises (insK Prod.fst x l)
  | [], _, _ => by simp [insK, Rises]
  | e :: r, h, hn => by
    unfold Rises at h
    obtain ⟨h1, h2⟩ := List.pairwise_cons.1 h
    unfold insK
    split
    · rename_i hg
      have hg := gtN_yes hg
      refine List.pairwise_cons.2 ⟨fun b hb => ?_, h⟩
      rcases List.mem_cons.1 hb with rfl | hb
      · exact hg
      · exact ltB_trans hg (h1 b hb)
    · rename_i hg
      have hg := gtN_no (by simpa using hg) (hn e (by simp))
      refine List.pairwise_cons.2 ⟨fun b hb => ?_, ins_rises h2 (fun a ha => hn a (by simp [ha]))⟩
      rcases insK_mem.1 hb with rfl | hb
      · exact hg
      · exact h1 b hb
theorem with_rises {x : FileD} {l : List FileD} (h : Rises l) : Rises (withF x l) :=
  ins_rises (less_rises h) (fun _ he => (lessK_mem he).2)
/-- Files whose names are right and rise. -/
def Named (l : List FileD) : Prop := Rises l ∧ ∀ f ∈ l, nameB f.1 = true
theorem Named.less {s : ByteArray} {l : List FileD} (h : Named l) : Named (lessF s l) := ⟨less_rises h.1, fun f hf => h.2 f (lessK_mem hf).1⟩
theorem Named.with {x : FileD} {l : List FileD} (h : Named l) (hx : nameB x.1 = true) : Named (withF x l) :=
  ⟨with_rises h.1, fun f hf => by
    rcases insK_mem.1 hf with rfl | hf
    · exact hx
    · exact h.2 f (lessK_mem hf).1⟩
theorem Named.of {l : List FileD} {p : Option ByteArray} (h : namesFrom p l = true) : Named l := ⟨(namesFrom_rises h).1, namesFrom_names h⟩
theorem named_from : ∀ {l : List FileD} {p : Option ByteArray}, Named l → (∀ q, p = some q → ∀ b ∈ l, ltB q b.1 = true) → namesFrom p l = true
  | [], p, _, _ => by cases p <;> rfl
  | f :: r, p, h, hp => by
    obtain ⟨h1, h2⟩ := List.pairwise_cons.1 h.1
    have hr : namesFrom (some f.1) r = true := named_from ⟨h2, fun b hb => h.2 b (by simp [hb])⟩ (fun q hq b hb => by injection hq with hq; rw [← hq]; exact h1 b hb)
    have hf := h.2 f (by simp)
    unfold namesFrom
    rw [hf, hr]
    cases p with
    | none => rfl
    | some q =>
      have := hp q rfl f (by simp)
      simp [this]
theorem Named.none {l : List FileD} (h : Named l) : namesFrom Option.none l = true := named_from h (fun q hq => by cases hq)
theorem opOkF_name {o : OpD} (h : opOkF o = true) : nameB o.2.1 = true ∧ (o.1 = 3 → nameB o.2.2.1 = true) := by
  unfold opOkF opOkB at h
  simp only [Bool.and_eq_true, Bool.or_eq_true, decide_eq_true_eq] at h
  refine ⟨h.1, fun h3 => ?_⟩
  rcases h.2 with (⟨h1 | h1, h2, _⟩ | ⟨h1, h2, _, _⟩) | ⟨h1, h2, _⟩
  all_goals first | omega | exact h2
theorem Named.make {l : List FileD} {o : OpD} (h : Named l) (ho : nameB o.2.1 = true) (h3 : o.1 = 3 → nameB o.2.2.1 = true) : Named (makeF l o) := by
  unfold makeF
  split
  · exact h.with ho
  · split
    · exact h.with ho
    · split
      · rename_i hk
        exact h.less.with (h3 hk)
      · exact h.less

/-! ### bytes -/
theorem tot_split (s : ByteArray) : ∀ (l : List FileD), (dataF s l).length + totF (lessF s l) ≤ totF l
  | [] => by simp [dataF, findK, lessF, lessK, totF]
  | e :: r => by
    have ih := tot_split s r
    have il := totF_less s r
    unfold dataF findK lessF lessK at *
    rw [List.find?_cons, List.filter_cons, totF_cons]
    simp only [ne_eq] at ih il ⊢
    by_cases h : e.1 = s
    · simp only [h, decide_true, not_true_eq_false, decide_false, Bool.false_eq_true, if_false, Option.map_some, Option.getD_some]
      omega
    · simp only [h, decide_false, not_false_eq_true, decide_true, if_true, totF_cons]
      omega
theorem tot_with (x : FileD) (l : List FileD) : totF (withF x l) = x.2.length + totF (lessF x.1 l) := by
  unfold withF withK
  rw [totF_ins]
  rfl
theorem make_tot_le (l : List FileD) (o : OpD) : totF (makeF l o) ≤ totF l + (if o.1 = 2 then o.2.2.2.length else 0) := by
  have h1 := tot_split o.2.1 l
  have h2 := totF_less o.2.1 l
  unfold makeF
  split
  · rename_i hk
    rw [tot_with, if_neg (by omega)]
    simp only [List.length_nil]
    omega
  · split
    · rename_i hk
      rw [tot_with]
      simp only [List.length_append]
      omega
    · split
      · rw [tot_with]
        have h3 := totF_less o.2.2.1 (lessF o.2.1 l)
        simp only
        omega
      · omega
theorem make_cut_le {l : List FileD} {o : OpD} (h2 : o.1 = 2) (k : Nat) : totF (makeF l (cutO o k)) ≤ totF (makeF l o) := by
  have e1 : (cutO o k).1 = 2 := h2
  unfold makeF
  rw [if_neg (by omega), if_pos e1, if_neg (by omega), if_pos h2, tot_with, tot_with]
  show (dataF o.2.1 l ++ o.2.2.2.take k).length + totF (lessF o.2.1 l) ≤ (dataF o.2.1 l ++ o.2.2.2).length + totF (lessF o.2.1 l)
  rw [List.length_append, List.length_append]
  have := List.length_take_le' k o.2.2.2
  omega

/-! ### valid disks -/
theorem ok_of {r : DD} {l : List FileD} (hl : limB r = true) (hn : Named r.fs) (ht : (totF r.fs : Int) ≤ r.room) (hv : visF r.room r.fs r.ops = some l) : r.ok = true := by
  unfold DD.ok okD
  rw [hl, hn.none, decide_eq_true ht, hv]
  rfl
theorem lim_of {r : DD} (h : 0 ≤ r.room ∧ r.room ≤ 200000 ∧ -1 ≤ r.fuse ∧ r.fuse ≤ 2000 ∧ r.fs.length ≤ 12 ∧ r.ops.length ≤ 60) : limB r = true := decide_eq_true h
theorem DD.zero_ok : DD.zero.ok = true := ok_of (l := []) (lim_of (by simp [DD.zero])) ⟨List.Pairwise.nil, by simp [DD.zero]⟩ (by simp [DD.zero, totF]) rfl
theorem visF_snoc {room : Int} {o : OpD} : ∀ {ops : List OpD} {l l' : List FileD}, visF room l ops = some l' → opOkF o = true → fitsF l' o = true → (totF (makeF l' o) : Int) ≤ room → visF room l (ops ++ [o]) = some (makeF l' o)
  | [], l, l', h, h1, h2, h3 => by
    simp only [visF, Option.some.injEq] at h
    subst h
    rw [List.nil_append, visF, h1, h2, Bool.and_self, if_pos rfl, if_pos h3, visF]
  | p :: r, l, l', h, h1, h2, h3 => by
    rw [List.cons_append]
    unfold visF at h ⊢
    split at h
    · rename_i hc
      rw [if_pos hc]
      split at h
      · rename_i ht
        rw [if_pos ht]
        exact visF_snoc h h1 h2 h3
      · cases h
    · cases h
theorem visF_named {room : Int} : ∀ {ops : List OpD} {l l' : List FileD} (k : Nat), visF room l ops = some l' → Named l → Named ((ops.take k).foldl makeF l)
  | ops, l, l', 0, _, h => by simpa using h
  | [], l, l', k + 1, _, h => by simpa using h
  | o :: r, l, l', k + 1, hv, h => by
    unfold visF at hv
    split at hv
    · rename_i hc
      simp at hc
      split at hv
      · have hn := opOkF_name hc.1
        simpa using visF_named k hv (h.make hn.1 hn.2)
      · cases hv
    · cases hv
section
variable {r : DD}
theorem DD.after_named (h : r.ok = true) (k : Nat) : Named (r.after k) := by
  obtain ⟨_, h2, _, hv⟩ := okD_some (DD.ok_seen h)
  exact visF_named k hv (Named.of h2)
theorem DD.seen_named (h : r.ok = true) : Named r.seen := by
  rw [DD.seen_after h]
  exact DD.after_named h _
theorem still_ok {room fuse : Int} {fs : List FileD} (h1 : 0 ≤ room ∧ room ≤ 200000) (h2 : -1 ≤ fuse ∧ fuse ≤ 2000) (h3 : fs.length ≤ 12) (hn : Named fs) (ht : (totF fs : Int) ≤ room) : (⟨room, fuse, fs, []⟩ : DD).ok = true :=
  ok_of (l := fs) (lim_of ⟨h1.1, h1.2, h2.1, h2.2, h3, by simp⟩) hn ht rfl
theorem still_seen {room fuse : Int} {fs : List FileD} (h : (⟨room, fuse, fs, []⟩ : DD).ok = true) : (⟨room, fuse, fs, []⟩ : DD).seen = fs := by
  rw [DD.seen_after h]
  rfl
theorem burn_in {f : Int} (h1 : -1 ≤ f) (h2 : f ≤ 2000) : -1 ≤ burnF f ∧ burnF f ≤ 2000 := by
  unfold burnF
  split <;> omega
theorem fuse_ok (h : r.ok = true) {f : Int} (h1 : -1 ≤ f) (h2 : f ≤ 2000) : (⟨r.room, f, r.fs, r.ops⟩ : DD).ok = true := by
  obtain ⟨_, hn, ht, hv⟩ := okD_some (DD.ok_seen h)
  have hl := DD.ok_lim h
  exact ok_of (r := ⟨r.room, f, r.fs, r.ops⟩) (lim_of ⟨hl.1, hl.2.1, h1, h2, hl.2.2.2.2.1, hl.2.2.2.2.2⟩) (Named.of hn) ht hv
theorem snoc_ok (h : r.ok = true) {f : Int} (h1 : -1 ≤ f) (h2 : f ≤ 2000) {o : OpD} (hl : r.ops.length ≠ 60) (ho : opOkF o = true) (hf : fitsF r.seen o = true) (ht : (totF (makeF r.seen o) : Int) ≤ r.room) : (⟨r.room, f, r.fs, r.ops ++ [o]⟩ : DD).ok = true := by
  obtain ⟨_, hn, htt, hv⟩ := okD_some (DD.ok_seen h)
  have hlm := DD.ok_lim h
  exact ok_of (r := ⟨r.room, f, r.fs, r.ops ++ [o]⟩) (lim_of ⟨hlm.1, hlm.2.1, h1, h2, hlm.2.2.2.2.1, by simp only [List.length_append, List.length_cons, List.length_nil]; omega⟩) (Named.of hn) htt (visF_snoc hv ho hf ht)
theorem opOkF_cut {o : OpD} (h : opOkF o = true) (h2 : o.1 = 2) {k : Nat} (hk : 1 ≤ k) : opOkF (cutO o k) = true := by
  have hb := (opOkF_bounds h).2
  have hc : (cutO o k).2.2.2.length = min k o.2.2.2.length := List.length_take
  unfold opOkF opOkB at *
  simp only [Bool.and_eq_true, Bool.or_eq_true, decide_eq_true_eq] at *
  refine ⟨h.1, ?_⟩
  have e1 : (cutO o k).1 = o.1 := rfl
  have e2 : (cutO o k).2.2.1 = o.2.2.1 := rfl
  rw [e1, e2, hc]
  rcases h.2 with (⟨h3 | h3, h4, h5⟩ | ⟨h3, h4, h5, h6⟩) | ⟨h3, h4, h5⟩
  · omega
  · omega
  · omega
  · exact .inr ⟨h3, h4, by omega⟩
theorem doA_ok (h : r.ok = true) (o : OpD) : (doA r o).1.ok = true := by
  by_cases ho : opOkF o = true
  · by_cases hf : r.fuse = 0
    · rw [doA_2 h ho hf]; exact h
    · cases hx : fitsF r.seen o with
      | false => rw [doA_3 h ho hf hx]; exact h
      | true =>
        by_cases hl : r.ops.length = 60
        · rw [doA_4 h ho hf hx hl]; exact h
        · rw [doA_go h ho hf hx hl]
          have hlm := DD.ok_lim h
          have hb := burn_in hlm.2.2.1 hlm.2.2.2.1
          have hle := leftD_eq h
          have hsg := DD.seen_good h
          have hle2 : (totF r.seen : Int) + (leftD r : Int) = r.room := by omega
          have hmt := make_tot_le r.seen
          show (⟨r.room, burnF r.fuse, r.fs, doOps r o⟩ : DD).ok = true
          unfold doOps
          split
          · rename_i hlt
            have hk2 : o.1 = 2 := by
              rcases opOkF_data ho with h2 | h2
              · exact h2
              · omega
            split
            · exact fuse_ok h hb.1 hb.2
            · rename_i hl0
              refine snoc_ok h hb.1 hb.2 hl (opOkF_cut ho hk2 (by omega)) (by rw [fits_cut]; exact hx) ?_
              have h1 := hmt (cutO o (leftD r))
              have h2 : (cutO o (leftD r)).2.2.2.length = min (leftD r) o.2.2.2.length := List.length_take
              have h3 : (cutO o (leftD r)).1 = 2 := hk2
              rw [if_pos h3, h2] at h1
              omega
          · rename_i hlt
            refine snoc_ok h hb.1 hb.2 hl ho hx ?_
            have h1 := hmt o
            split at h1 <;> omega
  · rw [doA_bad (fun hh => ho hh.2)]
    exact DD.zero_ok
theorem syncD_ok (h : r.ok = true) : (syncD r).ok = true := by
  unfold syncD
  rw [h]
  simp only [if_true]
  split
  · exact h
  · have hlm := DD.ok_lim h
    have hsg := DD.seen_good h
    exact still_ok ⟨hlm.1, hlm.2.1⟩ (burn_in hlm.2.2.1 hlm.2.2.2.1) hsg.1 (DD.seen_named h) hsg.2
theorem crash_named (h : r.ok = true) (n k : Int) : Named (crashF r n k) ∧ (crashF r n k).length ≤ 12 ∧ (totF (crashF r n k) : Int) ≤ r.room := by
  have hg := DD.after_good h (clampN n r.ops.length)
  have hn := DD.after_named h (clampN n r.ops.length)
  unfold crashF
  split
  · exact ⟨hn, hg⟩
  · rename_i o ho
    obtain ⟨hop, hfit, hnext⟩ := DD.after_next h ho
    split
    · rename_i hk2
      have hnm := opOkF_name hop
      refine ⟨hn.make (o := cutO o _) hnm.1 hnm.2, make_len (by rw [fits_cut]; exact hfit) hg.1, ?_⟩
      have h1 := (DD.after_good h (clampN n r.ops.length + 1)).2
      rw [hnext] at h1
      have h2 := make_cut_le (l := r.after (clampN n r.ops.length)) hk2 (clampN k o.2.2.2.length)
      omega
    · exact ⟨hn, hg⟩
theorem crashD_ok (h : r.ok = true) (n k : Int) : (crashD r n k).ok = true ∧ crashD r n k = ⟨r.room, -1, crashF r n k, []⟩ := by
  have e : crashD r n k = ⟨r.room, -1, crashF r n k, []⟩ := by unfold crashD; rw [h]; rfl
  have hlm := DD.ok_lim h
  have hc := crash_named h n k
  rw [e]
  exact ⟨still_ok ⟨hlm.1, hlm.2.1⟩ ⟨by omega, by omega⟩ hc.2.1 hc.1 hc.2.2, rfl⟩
theorem crash_all (h : r.ok = true) : crashD r 99 0 = ⟨r.room, -1, r.seen, []⟩ := by
  rw [(crashD_ok h 99 0).2]
  have hlm := DD.ok_lim h
  have hc : clampN 99 r.ops.length = r.ops.length := by
    unfold clampN
    rw [if_neg (by omega)]
    split <;> omega
  rw [crashF_none rfl (by rw [hc]; exact Nat.le_refl _), hc, ← DD.seen_after h]

/-! ### small disks -/
/-- A valid disk whose waiting operations append at most eight bytes each. -/
structure Nice (r : DD) : Prop where
  ok : r.ok = true
  few : ∀ o ∈ r.ops, o.2.2.2.length ≤ 8
theorem Nice.zero : Nice DD.zero := ⟨DD.zero_ok, by simp [DD.zero]⟩
theorem Nice.doA (h : Nice r) {o : OpD} (ho : o.2.2.2.length ≤ 8) : Nice (doA r o).1 := by
  refine ⟨doA_ok h.ok o, ?_⟩
  unfold Go.Proofs.Ytejibpajjoaldaa.doA
  split
  · split
    · exact h.few
    · split
      · exact h.few
      · split
        · exact h.few
        · show ∀ p ∈ doOps r o, p.2.2.2.length ≤ 8
          unfold doOps
          split
          · split
            · exact h.few
            · intro p hp
              rcases List.mem_append.1 hp with hp | hp
              · exact h.few p hp
              · rw [List.mem_singleton.1 hp]
                have := List.length_take_le' (leftD r) o.2.2.2
                exact Nat.le_trans this ho
          · intro p hp
            rcases List.mem_append.1 hp with hp | hp
            · exact h.few p hp
            · rw [List.mem_singleton.1 hp]
              exact ho
  · exact Nice.zero.few
theorem Nice.sync (h : Nice r) : Nice (syncD r) := by
  refine ⟨syncD_ok h.ok, ?_⟩
  unfold syncD
  split
  · split
    · exact h.few
    · simp
  · exact Nice.zero.few
theorem Nice.fuse (h : Nice r) {f : Int} (h1 : -1 ≤ f) (h2 : f ≤ 2000) : Nice ⟨r.room, f, r.fs, r.ops⟩ := ⟨fuse_ok h.ok h1 h2, h.few⟩
theorem Nice.new {room : Int} (h1 : 0 ≤ room) (h2 : room ≤ 200000) : Nice ⟨room, -1, [], []⟩ := ⟨still_ok ⟨h1, h2⟩ ⟨by omega, by omega⟩ (by simp) ⟨List.Pairwise.nil, by simp⟩ (by simp [totF]; omega), by simp⟩
theorem nameB_size {s : ByteArray} (h : nameB s = true) : s.size ≤ 12 := by
  unfold nameB at h
  simp only [Bool.and_eq_true, decide_eq_true_eq] at h
  exact h.1.2
theorem wtF_small : ∀ {l : List FileD}, (∀ f ∈ l, nameB f.1 = true) → wtF l ≤ 12 * l.length + totF l
  | [], _ => by simp [wtF]
  | f :: r, h => by
    have ih := wtF_small (fun x hx => h x (by simp [hx]) : ∀ x ∈ r, nameB x.1 = true)
    have h1 := nameB_size (h f (by simp))
    rw [totF_cons]
    unfold wtF at *
    simp only [List.map_cons, List.sum_cons, List.length_cons]
    omega
theorem opOkF_to {o : OpD} (h : opOkF o = true) : o.2.2.1.size ≤ 12 := by
  unfold opOkF opOkB at h
  simp only [Bool.and_eq_true, Bool.or_eq_true, decide_eq_true_eq] at h
  rcases h.2 with (⟨h1 | h1, h2, _⟩ | ⟨h1, h2, _, _⟩) | ⟨h1, h2, _⟩
  all_goals first | exact nameB_size h2 | (rw [h2]; decide) | omega
theorem wtO_small : ∀ {l : List OpD}, (∀ o ∈ l, opOkF o = true ∧ o.2.2.2.length ≤ 8) → wtO l ≤ 32 * l.length
  | [], _ => by simp [wtO]
  | o :: r, h => by
    have ih := wtO_small (fun x hx => h x (by simp [hx]) : ∀ x ∈ r, opOkF x = true ∧ x.2.2.2.length ≤ 8)
    have h1 := nameB_size (opOkF_name (h o (by simp)).1).1
    have h2 := opOkF_to (h o (by simp)).1
    have h3 := (h o (by simp)).2
    unfold wtO at *
    simp only [List.map_cons, List.sum_cons, List.length_cons]
    omega
theorem Nice.weight (h : Nice r) : r.weight ≤ 1048576 := by
  obtain ⟨_, hn, ht, _⟩ := okD_some (DD.ok_seen h.ok)
  have hl := DD.ok_lim h.ok
  have h1 := wtF_small (namesFrom_names hn)
  have h2 := wtO_small (l := r.ops) (fun o ho => by
    obtain ⟨j, hj, rfl⟩ := List.getElem_of_mem ho
    exact ⟨(DD.after_next h.ok (List.getElem?_eq_getElem hj)).1, h.few _ ho⟩)
  unfold DD.weight
  omega
end
end Go.Proofs.Ytejibpajjoaldaa
