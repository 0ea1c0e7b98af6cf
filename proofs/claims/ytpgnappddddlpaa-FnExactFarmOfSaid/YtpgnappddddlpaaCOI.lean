/- The contracts of the model's Less, Sorted and SortOne. Condition: at most 2^21 records. // Records: the contracts of the laws' helpers that compare and that leave marks. Condition: at most 2^21 of each. // Batches of records in memory: that read, that are the call's own (plain lemmas over the model; no condition). // Plain mathematics of merging lists of records: the first of the least heads is taken, again and again (no condition). // Plain mathematics of a tree of pairs over lists of records: what is drawn from it is what is taken from the lists one by one, the first of the least heads (no condition). // Plain mathematics of cutting a list of records into batches (no condition). // The contract of the model's Batches. Condition: at most 2^20 records. -/
import Derived.Test.YtpgnappddddlpaaCOP
import Derived.Test.YtpgnappddddlpaaCOH
import Derived.Test.YtpgnappddddlpaaCOA
import Derived.StillTailTactics
import Derived.Deep.RegionLaw
import Derived.Test.YtpgnappddddlpaaCOC
namespace Go.Proofs.Ytpgnappddddlpaa
open Go.RowKit

theorem less_f {a1 a2 a3 b1 b2 b3 : Int} (h : a1 ≠ b1) : lessR ⟨a1, a2, a3⟩ ⟨b1, b2, b3⟩ = decide (a1 < b1) := by simp [lessR, h]
theorem less_t {a1 a2 a3 b2 b3 : Int} (h : a2 ≠ b2) : lessR ⟨a1, a2, a3⟩ ⟨a1, b2, b3⟩ = decide (a2 < b2) := by simp [lessR, h]
theorem less_w {a1 a2 a3 b3 : Int} : lessR ⟨a1, a2, a3⟩ ⟨a1, a2, b3⟩ = decide (a3 < b3) := by simp [lessR]
set_option maxRecDepth 10000 in
set_option maxHeartbeats 1000000 in
theorem specLess (x y : GE) (w : World) :
    Calls Try.prog 161 #[.agg #[.int .i64 x.f, .int .i64 x.t, .int .i64 x.w], .agg #[.int .i64 y.f, .int .i64 y.t, .int .i64 y.w]] w (GTell w (lessR x y)) := by
  obtain ⟨a1, a2, a3⟩ := x
  obtain ⟨b1, b2, b3⟩ := y
  by_cases h1 : a1 = b1
  · subst h1
    by_cases h2 : a2 = b2
    · subst h2
      have HV := Lib.hid (less_w (a1 := a1) (a2 := a2) (a3 := a3) (b3 := b3))
      go_enter Try.func161, Try.ntmps161
      go_wp2
      go_ret
      exact ⟨g_bool HV.out.symm, below_a2 _ _ _⟩
    · have HV := Lib.hid (less_t (a1 := a1) (a2 := a2) (a3 := a3) (b2 := b2) (b3 := b3) h2)
      have e1 : (a2 != b2) = true := by simpa using h2
      go_enter Try.func161, Try.ntmps161
      go_wp2
      go_ret
      exact ⟨g_bool HV.out.symm, below_a2 _ _ _⟩
  · have HV := Lib.hid (less_f (a1 := a1) (a2 := a2) (a3 := a3) (b1 := b1) (b2 := b2) (b3 := b3) h1)
    have e1 : (a1 != b1) = true := by simpa using h1
    go_enter Try.func161, Try.ntmps161
    go_wp2
    go_ret
    exact ⟨g_bool HV.out.symm, below_a2 _ _ _⟩

/-- No record up to k comes before its predecessor. -/
def upTo (es : List GE) (k : Nat) : Prop := ∀ j, j + 1 < k → ∀ x y, es[j]? = some x → es[j + 1]? = some y → lessR y x = false
/-! ### SortOne -/
theorem le_more {s : List GE} {j : Nat} {x y : GE} (hy : s[j]? = some y) (h : ∀ z ∈ s.take j, lessR x z = false) (h2 : lessR x y = false) : ∀ z ∈ s.take (j + 1), lessR x z = false := by
  intro z hz
  rw [g_take s j y hy] at hz
  rcases List.mem_append.1 hz with hz | hz
  · exact h z hz
  · simp at hz
    subst hz
    exact h2
theorem sortR_step (es : List GE) (k : Nat) (x : GE) (h : es[k]? = some x) : sortR (es.take (k + 1)) = insR x (sortR (es.take k)) := by
  rw [g_take es k x h]
  unfold sortR
  rw [List.foldl_append]
  rfl
theorem sortR_len (es : List GE) : (sortR es).length = es.length := (sortR_perm es).length_eq
theorem sortR_at (es : List GE) (k n : Nat) (hk : k ≤ n) (hl : es.length = n) : (sortR (es.take k)).length = k := by
  rw [sortR_len, List.length_take]; omega

theorem rec_far {w : World} {lo e size n g : Nat} {v : Value} {xs : List Value} (h : w.ownsRow lo e size v n xs) (hg : g < lo) : v.ownBlock = none ∨ v.ownBlock ≠ some g :=
  .inr (fun e => by have := (h.lt g e).1; omega)

set_option maxRecDepth 100000 in
set_option maxHeartbeats 4000000 in
theorem specSortOne (A : Option Addr) (n c : Nat) (es : List GE) (w : World) (hr : SlG w A n es) (hn : n ≤ 2097152) :
    Calls Try.prog 162 #[.slice A n c] w (RowRc w n (sortR es)) := by
  obtain ⟨i0, hi, hz0, hz1, hz2⟩ := info_parts Try.infoRec
  have HR := Lib.hid hr
  have HL := Lib.hid hr.len
  clear hr
  go_enter Try.func162, Try.ntmps162
  go_wp2
  go_loopw [3, 11] (fun v i wr => ∃ (k g c1 : Nat), k ≤ n ∧ i = .int .i64 k ∧ v = .slice (some ⟨g, 0, none⟩) k c1 ∧ Hid (wr.ownsRow w.heap.size 150 3 (.slice (some ⟨g, 0, none⟩) k c1) k ((sortR (es.take k)).flatMap GE.cells)) ∧ Hid (Below w.heap.size w wr)) (fun _ i _ => n - (intOf i).toNat)
  case atStart => exact ⟨0, w.heap.size, 0, Nat.zero_le _, rfl, rfl, Lib.hid (rec_built w), Lib.hid (below_a1 _ _)⟩
  case round =>
    obtain ⟨k, g, c1, hk, rfl, rfl, hown, hbel⟩ := hrel
    by_cases hlt : k < n
    · obtain ⟨b, off, x, rfl, hbw, he, c0, d0, e0⟩ := HR.out.at_ hlt
      have c0 := (hbel.out.cell (p := ⟨b, off + k * 3, none⟩) hbw).trans c0
      have d0 := (hbel.out.cell (p := ⟨b, off + k * 3 + 1, none⟩) hbw).trans d0
      have e0 := (hbel.out.cell (p := ⟨b, off + k * 3 + 2, none⟩) hbw).trans e0
      have HST := Lib.hid (sortR_step es k x he.out)
      have HSL := Lib.hid (sortR_at es k n (by omega) HL.out)
      obtain ⟨s, hs⟩ : ∃ s, sortR (es.take k) = s := ⟨_, rfl⟩
      rw [hs] at hown HST HSL
      clear he hs
      have RB := Lib.hid (show RBox (wr.alloc (.cells #[.int .i64 x.f, .int .i64 x.t, .int .i64 x.w] 150)) wr.heap.size x from ⟨by simp, by simp, by simp, by simp⟩)
      have HO := Lib.hid (hown.out.alloc (.cells #[.int .i64 x.f, .int .i64 x.t, .int .i64 x.w] 150))
      have HB := Lib.hid (g_chain hbel.out (below_a1 wr (.cells #[.int .i64 x.f, .int .i64 x.t, .int .i64 x.w] 150)))
      have HNE : Hid (g < wr.heap.size) := Lib.hid (hown.out.lt g rfl).2
      have HCAP : k ≤ c1 := own_capR hown.out
      go_wp2
      clear hown hbel c0 d0 e0
      generalize wr.alloc (.cells #[.int .i64 x.f, .int .i64 x.t, .int .i64 x.w] 150) = W0 at *
      obtain ⟨bx, hbx⟩ : ∃ bx, wr.heap.size = bx := ⟨_, rfl⟩
      rw [hbx] at RB HNE ⊢
      clear hbx
      have HS := Lib.hid (SlG.of_own HO.out HSL.out)
      go_loopw [6] (fun a wi => ∃ j : Nat, j ≤ k ∧ a = .int .i64 j ∧ Hid (∀ y ∈ s.take j, lessR x y = false) ∧ Hid (Below W0.heap.size W0 wi)) (fun a _ => k - (intOf a).toNat)
      case atStart => exact ⟨0, Nat.zero_le _, by go_num, Lib.hid (by simp), Lib.hid (Below.refl _ _)⟩
      case round =>
        obtain ⟨j, hj, rfl, hle, hbi⟩ := hrel
        by_cases hjk : j < k
        · obtain ⟨b', off', y, hA, hbw', hy, p0, p1, p2⟩ := HS.out.at_ hjk
          obtain ⟨rfl, rfl⟩ : g = b' ∧ 0 = off' := by injection hA with hA; injection hA with h1 h2; exact ⟨h1, h2⟩
          have p0 := (hbi.out.cell (p := ⟨g, 0 + j * 3, none⟩) hbw').trans p0
          have p1 := (hbi.out.cell (p := ⟨g, 0 + j * 3 + 1, none⟩) hbw').trans p1
          have p2 := (hbi.out.cell (p := ⟨g, 0 + j * 3 + 2, none⟩) hbw').trans p2
          rw [Nat.zero_add] at p0 p1 p2
          obtain ⟨q3, q0, q1, q2⟩ := RB.out.below hbi.out
          clear hA q3
          have HC := Lib.hid (fun W => specLess x y W)
          obtain ⟨r, hr⟩ : ∃ r, lessR x y = r := ⟨_, rfl⟩
          have HZ := Lib.hid hr
          rw [hr] at HC
          clear hr
          go_wp2_with fail
          refine wp_region_still_tail 10 (by kernel_rfl) (by kernel_rfl) ?_
          simp only [List.take_succ_cons, List.take_zero, List.drop_succ_cons, List.drop_zero]
          change wpStill _ _ (World.drew _) _ _ _
          repeat still_step
          refine wpStill_nil ?_
          change wpList _ _ _ _ _ (World.drew _)
          have HBI := Lib.hid hbi.out.drew
          clear hbi q0 q1 q2 p0 p1 p2
          generalize World.drew wr = V at *
          cases r with
          | false =>
            go_wp2_with fail
            refine (HC.out _).mono ?_
            rintro e w1 ⟨rfl, hb⟩
            have HB1 := Lib.hid (g_chain HBI.out hb)
            clear hb
            go_wp2
            go_roundw
            case rel => exact ⟨j + 1, by omega, by go_num, Lib.hid (le_more hy.out hle.out HZ.out), HB1⟩
            case measure => simp [intOf]; omega
          | true =>
            have HI := Lib.hid (insR_at x s j hle.out (by rw [HSL.out]; exact hj) (fun z hz => by have := hy.out; rw [hz] at this; injection this with this; rw [this]; exact HZ.out))
            go_wp2_with fail
            refine (HC.out _).mono ?_
            rintro e V2 ⟨rfl, hb⟩
            have HBI := Lib.hid (g_chain HBI.out hb)
            clear hb HZ HC hle
            generalize V2 = V at *
            have HV := Lib.hid (g_chain HB.out HBI.out)
            have RBV := Lib.hid (RB.out.below HBI.out)
            have HOV := Lib.hid (own_below HO.out HBI.out)
            have HSV := SlG.of_own HOV.out HSL.out
            obtain ⟨P', hrun, hsl⟩ := rec_from HSV hj HCAP
            have HSD := Lib.hid hsl
            have HONE := Lib.hid (rec_one (s.drop j))
            have HON2 := Lib.hid (rec_one [x])
            have HVG : Hid (g < V.heap.size) := Lib.hid (HOV.out.lt g rfl).2
            have hrun2 := fun W => rec_most g k c1 j hj HCAP W
            have HPRE := Lib.hid (own_most HOV.out HSL.out hj)
            clear hsl HSV
            go_wp2_with (at_builtin; refine wpList_append_any _ rfl (.tmp 30) (.tmp 33) _ rfl V.heap.size 150 i0 _ 3 24 Try.underlying148 hi hz0 hz1 hz2 rfl (by omega) (.slice (some ⟨V.heap.size, 0, none⟩) 0 0) 0 [] rfl (rec_built V) V.heap.size P' (k - j) (c1 - j) ((s.drop j).flatMap GE.cells) rfl (HSD.out.row.reads.alloc (Nat.le_refl _) _) HONE.out (by simp only [maxLen]; omega) (by omega) (by simp) ?_; intro v1 w1 hown1 hg1 hat1)
            obtain ⟨A1, cc, rfl⟩ := rec_form hown1
            simp only [Nat.zero_add, List.nil_append] at hown1
            have HR1 := Lib.hid hown1
            have HVB := Lib.hid (rec_below hg1)
            have HPR1 := Lib.hid (own_below HPRE.out HVB.out)
            have RB1 := Lib.hid (RBV.out.below HVB.out)
            have HB1 := Lib.hid (g_chain HV.out HVB.out)
            have HGW : Hid (g < w1.heap.size) := Lib.hid (Nat.lt_of_lt_of_le HVG.out HVB.out.size)
            have hlw1 : w.heap.size ≤ w1.heap.size := HB1.out.size
            clear hown1 hg1 hat1 hrun
            obtain ⟨_, q0, q1, q2⟩ := RB1.out
            go_region_law (first
              | (refine step_append_any _ (by rfl) (.tmp 37) (.tmp 39) _ (by rfl) w.heap.size 150 i0 _ 3 24 Try.underlying148 hi hz0 hz1 hz2 rfl (by omega) (.slice (some ⟨g, 0, none⟩) j c1) j ((s.take j).flatMap GE.cells) (by rfl) (HPR1.out.alloc _) (w1.heap.size + 1) (some ⟨w1.heap.size, 0, none⟩) 1 1 (GE.cells x) (by rfl) (rec_reads _ x _ _ rfl) (by simpa using HON2.out) (by simp only [maxLen]; omega) (by omega) (by simp; omega) ?_; intro v2 w2 hown2 hg2 hat2; obtain ⟨A2, c2, rfl⟩ := rec_form hown2; have hlw2 : w.heap.size ≤ w2.heap.size := (by have := hg2.size; simp at this; omega); have HR2 : Hid (w2.ownsRow V.heap.size 150 3 (.slice A1 (k - j) cc) (k - j) ((s.drop j).flatMap GE.cells)) := Lib.hid (by first | exact (HR1.out.alloc _).kept hg2 (rec_far HR1.out HVG.out) | exact (HR1.out.alloc _).drew.kept hg2 (rec_far HR1.out HVG.out) | exact (HR1.out.drew.alloc _).kept hg2 (rec_far HR1.out HVG.out)))
              | (refine step_append_any _ (by rfl) (.tmp 40) (.tmp 41) _ (by rfl) w.heap.size 150 i0 _ 3 24 Try.underlying148 hi hz0 hz1 hz2 rfl (by omega) (.slice A2 (j + 1) c2) (j + 1) ((s.take j).flatMap GE.cells ++ GE.cells x) (by rfl) hown2 w2.heap.size A1 (k - j) cc ((s.drop j).flatMap GE.cells) (by rfl) (Row.of_own HR2.out).reads HONE.out (by simp only [maxLen]; omega) (by omega) hlw2 ?_; intro v3 w3 hown3 hg3 hat3))
            all_goals
              have HB3 : Hid (Below w.heap.size w w3) := Lib.hid ((Below.grown (by first | exact (HB1.out.alloc hlw1 _).grown hg2 (by simp; omega) (fun j' e => by have := HPR1.out.lt j' e; omega) | exact ((HB1.out.alloc hlw1 _).drew).grown hg2 (by simp; omega) (fun j' e => by have := HPR1.out.lt j' e; omega)) hg3 hlw2 (fun j' e => (hown2.lt j' e).1)))
              have hcs : (s.take j).flatMap GE.cells ++ GE.cells x ++ (s.drop j).flatMap GE.cells = (insR x s).flatMap GE.cells := by rw [HI.out]; simp
              have hnn : j + 1 + (k - j) = k + 1 := by omega
              rw [hcs, hnn, ← HST.out] at hown3
              obtain ⟨g3, c3, rfl, _⟩ := hown3.form (by omega)
              have HO3 := Lib.hid hown3
              clear hown2 hown3 hg2 hg3 hat2 hat3 hcs hnn q0 q1 q2 hrun2
              go_wp2
              go_roundw
              case rel => exact ⟨k + 1, g3, c3, by omega, by go_num, rfl, HO3, HB3⟩
              case measure => simp [intOf]; omega
        · have HI := Lib.hid (insR_at x s j hle.out (by rw [HSL.out]; exact hj) (fun z hz => by have := (List.getElem?_eq_some_iff.1 hz).1; have := HSL.out; omega))
          have hdf : decide (j < k) = false := by simpa using hjk
          have HBI := Lib.hid hbi.out
          go_wp2_with fail
          go_quiet (fail)
          have HBI := Lib.hid (below_drewN HBI.out nq)
          clear hbi hle hdf
          generalize World.drewN wr nq = V at *
          have HV := Lib.hid (g_chain HB.out HBI.out)
          have RBV := Lib.hid (RB.out.below HBI.out)
          have HOV := Lib.hid (own_below HO.out HBI.out)
          have HSV := SlG.of_own HOV.out HSL.out
          obtain ⟨P', hrun, hsl⟩ := rec_from HSV hj HCAP
          have HSD := Lib.hid hsl
          have HONE := Lib.hid (rec_one (s.drop j))
          have HON2 := Lib.hid (rec_one [x])
          have HVG : Hid (g < V.heap.size) := Lib.hid (HOV.out.lt g rfl).2
          have hrun2 := fun W => rec_most g k c1 j hj HCAP W
          have HPRE := Lib.hid (own_most HOV.out HSL.out hj)
          clear hsl HSV
          go_wp2_with (at_builtin; refine wpList_append_any _ rfl (.tmp 30) (.tmp 33) _ rfl V.heap.size 150 i0 _ 3 24 Try.underlying148 hi hz0 hz1 hz2 rfl (by omega) (.slice (some ⟨V.heap.size, 0, none⟩) 0 0) 0 [] rfl (rec_built V) V.heap.size P' (k - j) (c1 - j) ((s.drop j).flatMap GE.cells) rfl (HSD.out.row.reads.alloc (Nat.le_refl _) _) HONE.out (by simp only [maxLen]; omega) (by omega) (by simp) ?_; intro v1 w1 hown1 hg1 hat1)
          obtain ⟨A1, cc, rfl⟩ := rec_form hown1
          simp only [Nat.zero_add, List.nil_append] at hown1
          have HR1 := Lib.hid hown1
          have HVB := Lib.hid (rec_below hg1)
          have HPR1 := Lib.hid (own_below HPRE.out HVB.out)
          have RB1 := Lib.hid (RBV.out.below HVB.out)
          have HB1 := Lib.hid (g_chain HV.out HVB.out)
          have HGW : Hid (g < w1.heap.size) := Lib.hid (Nat.lt_of_lt_of_le HVG.out HVB.out.size)
          have hlw1 : w.heap.size ≤ w1.heap.size := HB1.out.size
          clear hown1 hg1 hat1 hrun
          obtain ⟨_, q0, q1, q2⟩ := RB1.out
          go_region_law (first
            | (refine step_append_any _ (by rfl) (.tmp 37) (.tmp 39) _ (by rfl) w.heap.size 150 i0 _ 3 24 Try.underlying148 hi hz0 hz1 hz2 rfl (by omega) (.slice (some ⟨g, 0, none⟩) j c1) j ((s.take j).flatMap GE.cells) (by rfl) (HPR1.out.alloc _) (w1.heap.size + 1) (some ⟨w1.heap.size, 0, none⟩) 1 1 (GE.cells x) (by rfl) (rec_reads _ x _ _ rfl) (by simpa using HON2.out) (by simp only [maxLen]; omega) (by omega) (by simp; omega) ?_; intro v2 w2 hown2 hg2 hat2; obtain ⟨A2, c2, rfl⟩ := rec_form hown2; have hlw2 : w.heap.size ≤ w2.heap.size := (by have := hg2.size; simp at this; omega); have HR2 : Hid (w2.ownsRow V.heap.size 150 3 (.slice A1 (k - j) cc) (k - j) ((s.drop j).flatMap GE.cells)) := Lib.hid (by first | exact (HR1.out.alloc _).kept hg2 (rec_far HR1.out HVG.out) | exact (HR1.out.alloc _).drew.kept hg2 (rec_far HR1.out HVG.out) | exact (HR1.out.drew.alloc _).kept hg2 (rec_far HR1.out HVG.out)))
            | (refine step_append_any _ (by rfl) (.tmp 40) (.tmp 41) _ (by rfl) w.heap.size 150 i0 _ 3 24 Try.underlying148 hi hz0 hz1 hz2 rfl (by omega) (.slice A2 (j + 1) c2) (j + 1) ((s.take j).flatMap GE.cells ++ GE.cells x) (by rfl) hown2 w2.heap.size A1 (k - j) cc ((s.drop j).flatMap GE.cells) (by rfl) (Row.of_own HR2.out).reads HONE.out (by simp only [maxLen]; omega) (by omega) hlw2 ?_; intro v3 w3 hown3 hg3 hat3))
          all_goals
            have HB3 : Hid (Below w.heap.size w w3) := Lib.hid ((Below.grown (by first | exact (HB1.out.alloc hlw1 _).grown hg2 (by simp; omega) (fun j' e => by have := HPR1.out.lt j' e; omega) | exact ((HB1.out.alloc hlw1 _).drew).grown hg2 (by simp; omega) (fun j' e => by have := HPR1.out.lt j' e; omega)) hg3 hlw2 (fun j' e => (hown2.lt j' e).1)))
            have hcs : (s.take j).flatMap GE.cells ++ GE.cells x ++ (s.drop j).flatMap GE.cells = (insR x s).flatMap GE.cells := by rw [HI.out]; simp
            have hnn : j + 1 + (k - j) = k + 1 := by omega
            rw [hcs, hnn, ← HST.out] at hown3
            obtain ⟨g3, c3, rfl, _⟩ := hown3.form (by omega)
            have HO3 := Lib.hid hown3
            clear hown2 hown3 hg2 hg3 hat2 hat3 hcs hnn q0 q1 q2 hrun2
            go_wp2
            go_roundw
            case rel => exact ⟨k + 1, g3, c3, by omega, by go_num, rfl, HO3, HB3⟩
            case measure => simp [intOf]; omega
    · have HE := Lib.hid (show sortR (es.take k) = sortR es by rw [List.take_of_length_le (by rw [HL.out]; omega)])
      obtain rfl : k = n := by omega
      go_wp2
      go_ret
      exact ⟨_, c1, rfl, by rw [← HE.out]; exact hown.out, hbel.out⟩
end Go.Proofs.Ytpgnappddddlpaa
namespace Go.Proofs.Ytpgnappddddlpaa
open Go.RowKit

def MarkedRc (w : World) (lo k : Nat) (A : Option Addr) (n c : Nat) (es : List GE) (e : Ending) (w' : World) : Prop :=
  e = .returned (.int .i64 ((k + 3 * n : Nat) : Int)) ∧ w'.ownsRow lo 150 3 (.slice A n c) n ((markG k es).flatMap GE.cells) ∧ w.grownBy w' (Value.slice A n c).ownBlock
/-- The same, its number under a name. -/
def Marked3 (w : World) (lo kk : Nat) (A : Option Addr) (n c k : Nat) (es : List GE) (e : Ending) (w' : World) : Prop :=
  e = .returned (.int .i64 (kk : Int)) ∧ w'.ownsRow lo 150 3 (.slice A n c) n ((markG k es).flatMap GE.cells) ∧ w.grownBy w' (Value.slice A n c).ownBlock
theorem MarkedRc.to3 {w : World} {lo k : Nat} {A : Option Addr} {n c : Nat} {es : List GE} {e : Ending} {w' : World} (h : MarkedRc w lo k A n c es e w') : Marked3 w lo (k + 3 * n) A n c k es e w' := h

end Go.Proofs.Ytpgnappddddlpaa
namespace Go.Proofs.Ytpgnappddddlpaa
open Go.RowKit

/-- A batch. -/
structure BE where
  A : Option Addr
  n : Nat
  c : Nat
  es : List GE
def BE.v (e : BE) : Value := .slice e.A e.n e.c
def BE.cells (e : BE) : List Value := [.slice e.A e.n e.c]
theorem BE.cells_len (e : BE) : e.cells.length = 1 := rfl
theorem BE.cells_one (e : BE) : ∀ u ∈ e.cells, u.oneCell' = true := by
  intro u hu
  simp only [BE.cells, List.mem_cons, List.not_mem_nil, or_false] at hu
  subst hu
  rfl
structure BE.Ok (w : World) (e : BE) : Prop where
  rd : SlG w e.A e.n e.es
  cap : e.n ≤ e.c
theorem BE.Ok.below {w w' : World} {e : BE} (h : e.Ok w) (hb : Below w.heap.size w w') : e.Ok w' := ⟨h.rd.below hb, h.cap⟩
/-- A slice of batches in memory. -/
structure SlT (w : World) (A : Option Addr) (n : Nat) (bs : List BE) : Prop where
  len : bs.length = n
  row : Row w 1 A n (bs.flatMap BE.cells)
  each : ∀ e ∈ bs, e.Ok w
def ApartT (a b : BE) : Prop := a.v.ownBlock = none ∨ a.v.ownBlock ≠ b.v.ownBlock
/-- Rows of records of the call's own. -/
structure OwnL (w : World) (lo : Nat) (l : List BE) : Prop where
  own : ∀ d ∈ l, w.ownsRow lo 150 3 d.v d.n (d.es.flatMap GE.cells)
  len : ∀ d ∈ l, d.es.length = d.n
  apart : l.Pairwise ApartT
section
variable {w w' : World} {lo : Nat} {l m : List BE}
theorem OwnL.nil : OwnL w lo [] := ⟨by simp, by simp, List.Pairwise.nil⟩
theorem OwnL.kept {row : Option Nat} (h : OwnL w lo l) (hg : w.grownBy w' row) (hne : ∀ d ∈ l, d.v.ownBlock = none ∨ d.v.ownBlock ≠ row) : OwnL w' lo l :=
  ⟨fun d hd => (h.own d hd).kept hg (hne d hd), h.len, h.apart⟩
theorem OwnL.below (h : OwnL w lo l) (hb : Below w.heap.size w w') : OwnL w' lo l :=
  ⟨fun d hd => own_below (h.own d hd) hb, h.len, h.apart⟩
theorem OwnL.lt (h : OwnL w lo l) {d : BE} (hd : d ∈ l) : ∀ k, d.v.ownBlock = some k → lo ≤ k ∧ k < w.heap.size := (h.own d hd).lt
theorem OwnL.ok (h : OwnL w lo l) : ∀ d ∈ l, d.Ok w := fun d hd => ⟨SlG.of_own (h.own d hd) (h.len d hd), bat_cap (h.own d hd)⟩
theorem OwnL.far (h : OwnL w lo l) {g : Nat} {cur : Array Value} {t : TypeId} {fr : Nat × Nat} (hg : w.heap[g]? = some (.cells cur t fr)) (ht : t ≠ 150) : ∀ d ∈ l, d.v.ownBlock = none ∨ d.v.ownBlock ≠ some g := fun d hd => by
  rcases (h.own d hd).2 with ⟨e, _⟩ | ⟨g', cap, cur', e, _, hg', _⟩
  · exact .inl (by rw [e]; rfl)
  · refine .inr (fun e2 => ?_)
    rw [e] at e2
    have e3 : g' = g := by simpa [Value.ownBlock] using e2
    subst e3
    rw [hg] at hg'
    injection hg' with hg'
    injection hg' with _ h2
    exact ht h2
theorem OwnL.append (h : OwnL w lo l) (k : OwnL w lo m) (hx : ∀ a ∈ l, ∀ b ∈ m, ApartT a b) : OwnL w lo (l ++ m) :=
  ⟨fun d hd => by rcases List.mem_append.1 hd with hd | hd; exact h.own d hd; exact k.own d hd,
   fun d hd => by rcases List.mem_append.1 hd with hd | hd; exact h.len d hd; exact k.len d hd,
   List.pairwise_append.2 ⟨h.apart, k.apart, hx⟩⟩
theorem apartT_of_time {B lo' : Nat} (h : OwnL w lo l) (hB : w.heap.size ≤ B) (k : OwnL w' lo' m) (hB' : B ≤ lo') : ∀ a ∈ l, ∀ b ∈ m, ApartT a b := fun a ha b hb => by
  cases e : a.v.ownBlock with
  | none => exact .inl e
  | some i =>
    refine .inr (fun e2 => ?_)
    rw [e] at e2
    have h1 := h.lt ha i e
    have h2 := k.lt hb i e2.symm
    omega
theorem OwnL.one {d : BE} (h : w.ownsRow lo 150 3 d.v d.n (d.es.flatMap GE.cells)) (hs : d.es.length = d.n) : OwnL w lo [d] :=
  ⟨fun e he => by simp at he; subst he; exact h, fun e he => by simp at he; subst he; exact hs, by simp⟩
theorem OwnL.mono {lo' : Nat} (h : OwnL w lo l) (hl : lo' ≤ lo) : OwnL w lo' l := ⟨fun d hd => own_monoG (h.own d hd) hl, h.len, h.apart⟩
theorem OwnL.setLow (h : OwnL w lo l) {p : Addr} (hp : p.block < lo) (u : Value) : OwnL (w.setCell p u) lo l := ⟨fun d hd => own_lowG (h.own d hd) hp u, h.len, h.apart⟩
theorem OwnL.turn {d : BE} {ys : List GE} (h : OwnL w lo (l ++ d :: m)) (hg : w.grownBy w' d.v.ownBlock) (ho : w'.ownsRow lo 150 3 d.v d.n (ys.flatMap GE.cells)) (hs : ys.length = d.n) :
    OwnL w' lo (l ++ (⟨d.A, d.n, d.c, ys⟩ : BE) :: m) := by
  obtain ⟨a1, a2, a3⟩ := List.pairwise_append.1 h.apart
  obtain ⟨b1, b2⟩ := List.pairwise_cons.1 a2
  have hl : ∀ e ∈ l, w'.ownsRow lo 150 3 e.v e.n (e.es.flatMap GE.cells) := fun e he => (h.own e (List.mem_append_left _ he)).kept hg (a3 e he d (by simp))
  have hm : ∀ e ∈ m, w'.ownsRow lo 150 3 e.v e.n (e.es.flatMap GE.cells) := fun e he => by
    refine (h.own e (List.mem_append_right _ (by simp [he]))).kept hg ?_
    rcases b1 e he with h1 | h1
    · rw [h1]
      cases e.v.ownBlock <;> simp
    · exact .inr (fun e2 => h1 e2.symm)
  refine ⟨fun e he => ?_, fun e he => ?_, List.pairwise_append.2 ⟨a1, List.pairwise_cons.2 ⟨fun e he => b1 e he, b2⟩, fun e he f hf => ?_⟩⟩
  · rcases List.mem_append.1 he with he | he
    · exact hl e he
    · rcases List.mem_cons.1 he with rfl | he
      · exact ho
      · exact hm e he
  · rcases List.mem_append.1 he with he | he
    · exact h.len e (List.mem_append_left _ he)
    · rcases List.mem_cons.1 he with rfl | he
      · exact hs
      · exact h.len e (List.mem_append_right _ (by simp [he]))
  · rcases List.mem_cons.1 hf with rfl | hf
    · exact a3 e he d (by simp)
    · exact a3 e he f (by simp [hf])
end
/-- Batches of the call's own. -/
structure OwnT (w : World) (lo : Nat) (A : Option Addr) (n c : Nat) (bs : List BE) : Prop where
  row : w.ownsRow lo 196 1 (.slice A n c) n (bs.flatMap BE.cells)
  len : bs.length = n
  dat : OwnL w lo bs
section
variable {w w' : World} {n c lo : Nat} {A : Option Addr} {bs : List BE}
theorem SlT.below (h : SlT w A n bs) (hb : Below w.heap.size w w') : SlT w' A n bs := ⟨h.len, h.row.keep hb.size hb.block, fun e he => (h.each e he).below hb⟩
theorem SlT.at_ {j : Nat} (h : SlT w A n bs) (hj : j < n) : ∃ (b off : Nat) (e : BE), A = some ⟨b, off, none⟩ ∧ b < w.heap.size ∧ Hid (bs[j]? = some e) ∧ Hid (e.Ok w) ∧ w.cell? ⟨b, off + j, none⟩ = some (.slice e.A e.n e.c) := by
  obtain ⟨b, off, rfl, hb, hc⟩ := h.row.lies (by omega)
  have hl : j < bs.length := by have := h.len; omega
  have he : bs[j]? = some bs[j] := List.getElem?_eq_getElem hl
  refine ⟨b, off, bs[j], rfl, hb, he, h.each _ (List.getElem_mem hl), ?_⟩
  have h1 := hc (j * 1) _ (flat_get BE.cells 1 BE.cells_len bs j 0 _ he (by omega))
  rwa [Nat.mul_one] at h1
theorem OwnT.sl (h : OwnT w lo A n c bs) : SlT w A n bs := ⟨h.len, Row.of_own h.row, h.dat.ok⟩
theorem OwnT.below (h : OwnT w lo A n c bs) (hb : Below w.heap.size w w') : OwnT w' lo A n c bs := ⟨own_below h.row hb, h.len, h.dat.below hb⟩
theorem OwnT.mono {lo' : Nat} (h : OwnT w lo A n c bs) (hl : lo' ≤ lo) : OwnT w lo' A n c bs := ⟨own_monoG h.row hl, h.len, h.dat.mono hl⟩
/-- Where the blocks that are written were made elsewhere in time. -/
theorem OwnT.kept {row : Option Nat} (h : OwnT w lo A n c bs) (hg : w.grownBy w' row) (hne : ∀ k, row = some k → ¬ (lo ≤ k ∧ k < w.heap.size)) : OwnT w' lo A n c bs := by
  have hx : ∀ {e size m : Nat} {v : Value} {xs : List Value}, w.ownsRow lo e size v m xs → v.ownBlock = none ∨ v.ownBlock ≠ row := fun ho => by
    rename_i v _
    cases hv : v.ownBlock with
    | none => exact .inl rfl
    | some k => exact .inr (fun e => hne k e.symm (ho.lt k hv))
  exact ⟨h.row.kept hg (hx h.row), h.len, h.dat.kept hg (fun d hd => hx (h.dat.own d hd))⟩
end
theorem OwnL.grow {w w' : World} {lo lo' e size n : Nat} {l : List BE} {v : Value} {xs : List Value} (h : OwnL w lo l) (hv : w.ownsRow lo' e size v n xs) (hne : e ≠ 150) (hg : w.grownBy w' v.ownBlock) : OwnL w' lo l := by
  rcases hv.2 with ⟨rfl, _⟩ | ⟨g, cap, cur, rfl, _, hcell, _⟩
  · exact h.kept hg (fun d _ => by cases d.v.ownBlock <;> simp [Value.ownBlock])
  · exact h.kept hg (h.far hcell hne)
theorem Try.infoBatch : (Try.prog.info? 196).map (fun i => (i.zero, i.size, i.bytes)) = some (some (.agg #[.slice none 0 0]), 1, 24) := by kernel_rfl
theorem bat_built (w : World) : (w.alloc (.cells #[] 196)).ownsRow w.heap.size 196 1 (.slice (some ⟨w.heap.size, 0, none⟩) 0 0) 0 [] :=
  World.ownsRow_lit w #[] 0 (Nat.le_refl _) (by unfold maxLen; omega) rfl
theorem bat_reads (w : World) (e : BE) (t : TypeId) (g : Nat) (hg : g = w.heap.size) : Reads (w.alloc (.cells #[.slice e.A e.n e.c] t)) (g + 1) 1 (some ⟨g, 0, none⟩) 1 (BE.cells e) := by
  subst hg
  refine ⟨rfl, fun _ => ⟨_, rfl, by simp, fun j x hj => ?_⟩⟩
  match j, hj with
  | 0, hj => simp [BE.cells] at hj; subst hj; simp [Addr.add]
/-- New batches with these records. -/
def MadeT (w : World) (ls : List (List GE)) (e : Ending) (w' : World) : Prop :=
  ∃ A n c bs, e = .returned (.slice A n c) ∧ OwnT w' w.heap.size A n c bs ∧ bs.map BE.es = ls ∧ Below w.heap.size w w'
end Go.Proofs.Ytpgnappddddlpaa
namespace Go.Proofs.Ytpgnappddddlpaa

/-- The first of the least heads, with its place; 'b': the best so far. -/
def bestFrom : Nat → Option (Nat × GE) → List (List GE) → Option (Nat × GE)
  | _, b, [] => b
  | i, b, [] :: r => bestFrom (i + 1) b r
  | i, none, (x :: _) :: r => bestFrom (i + 1) (some (i, x)) r
  | i, some (j, y), (x :: _) :: r => bestFrom (i + 1) (if lessR x y then some (i, x) else some (j, y)) r
def bestR (rs : List (List GE)) : Option (Nat × GE) := bestFrom 0 none rs
def mergeR : Nat → List (List GE) → List GE
  | 0, _ => []
  | n + 1, rs => match bestR rs with
    | none => []
    | some (i, x) => x :: mergeR n (rs.modify i List.tail)
def totalR (rs : List (List GE)) : Nat := (rs.map List.length).sum
theorem bestFrom_none : ∀ (rs : List (List GE)) (i : Nat) (b : Option (Nat × GE)), bestFrom i b rs = none → b = none ∧ ∀ l ∈ rs, l = []
  | [], _, b, h => by simp only [bestFrom] at h; exact ⟨h, by simp⟩
  | [] :: r, i, b, h => by
    rw [bestFrom] at h
    obtain ⟨h1, h2⟩ := bestFrom_none r _ _ h
    exact ⟨h1, fun l hl => (List.mem_cons.1 hl).elim id (h2 l)⟩
  | (x :: t) :: r, i, none, h => by
    rw [bestFrom] at h
    cases (bestFrom_none r _ _ h).1
  | (x :: t) :: r, i, some (j, y), h => by
    rw [bestFrom] at h
    have := (bestFrom_none r _ _ h).1
    split at this <;> cases this
theorem bestFrom_some : ∀ (rs : List (List GE)) (i : Nat) (b : Option (Nat × GE)) (j : Nat) (x : GE), bestFrom i b rs = some (j, x) →
    (b = some (j, x) ∨ ∃ k t, j = i + k ∧ rs[k]? = some (x :: t)) ∧ (∀ j' y, b = some (j', y) → leR x y) ∧ ∀ l ∈ rs, ∀ y t, l = y :: t → leR x y
  | [], _, b, j, x, h => by
    simp only [bestFrom] at h
    exact ⟨.inl h, fun j' y e => by rw [h] at e; injection e with e; injection e with _ e; subst e; exact leR_refl _, by simp⟩
  | [] :: r, i, b, j, x, h => by
    rw [bestFrom] at h
    obtain ⟨h1, h2, h3⟩ := bestFrom_some r _ _ _ _ h
    refine ⟨h1.elim .inl (fun ⟨k, t, e, g⟩ => .inr ⟨k + 1, t, by omega, by simpa using g⟩), h2, fun l hl y t e => ?_⟩
    rcases List.mem_cons.1 hl with rfl | hl
    · cases e
    · exact h3 l hl y t e
  | (z :: t) :: r, i, none, j, x, h => by
    rw [bestFrom] at h
    obtain ⟨h1, h2, h3⟩ := bestFrom_some r _ _ _ _ h
    have hz : leR x z := h2 i z rfl
    refine ⟨.inr ?_, fun _ _ e => (by cases e), fun l hl y s e => ?_⟩
    · rcases h1 with e | ⟨k, s, e, g⟩
      · injection e with e
        injection e with e1 e2
        exact ⟨0, t, by omega, by rw [← e2]; rfl⟩
      · exact ⟨k + 1, s, by omega, by simpa using g⟩
    · rcases List.mem_cons.1 hl with rfl | hl
      · injection e with e1 _
        rw [← e1]; exact hz
      · exact h3 l hl y s e
  | (z :: t) :: r, i, some (q, y), j, x, h => by
    rw [bestFrom] at h
    obtain ⟨h1, h2, h3⟩ := bestFrom_some r _ _ _ _ h
    by_cases hl : lessR z y = true
    · rw [if_pos hl] at h1 h2
      have hz : leR x z := h2 i z rfl
      have hzy := leR_of_less hl
      refine ⟨.inr ?_, fun j' y' e => ?_, fun l hl' y' s e => ?_⟩
      · rcases h1 with e | ⟨k, s, e, g⟩
        · injection e with e
          injection e with e1 e2
          exact ⟨0, t, by omega, by rw [← e2]; rfl⟩
        · exact ⟨k + 1, s, by omega, by simpa using g⟩
      · injection e with e
        injection e with _ e
        rw [← e]; exact leR_trans hz hzy
      · rcases List.mem_cons.1 hl' with rfl | hl'
        · injection e with e1 _
          rw [← e1]; exact hz
        · exact h3 l hl' y' s e
    · rw [if_neg hl] at h1 h2
      have hy : leR x y := h2 q y rfl
      have hyz : leR y z := by unfold leR; simpa using hl
      refine ⟨h1.elim .inl (fun ⟨k, s, e, g⟩ => .inr ⟨k + 1, s, by omega, by simpa using g⟩), fun j' y' e => ?_, fun l hl' y' s e => ?_⟩
      · injection e with e
        injection e with _ e
        rw [← e]; exact hy
      · rcases List.mem_cons.1 hl' with rfl | hl'
        · injection e with e1 _
          rw [← e1]; exact leR_trans hy hyz
        · exact h3 l hl' y' s e
theorem bestR_some {rs : List (List GE)} {i : Nat} {x : GE} (h : bestR rs = some (i, x)) : ∃ t, rs[i]? = some (x :: t) ∧ ∀ l ∈ rs, ∀ y s, l = y :: s → leR x y := by
  obtain ⟨h1, _, h3⟩ := bestFrom_some rs 0 none i x h
  rcases h1 with e | ⟨k, t, e, g⟩
  · cases e
  · rw [Nat.zero_add] at e
    subst e
    exact ⟨t, g, h3⟩
theorem flat_modify : ∀ (rs : List (List GE)) (i : Nat) (x : GE) (t : List GE), rs[i]? = some (x :: t) → rs.flatten.Perm (x :: (rs.modify i List.tail).flatten)
  | [], _, _, _, h => by simp at h
  | l :: r, 0, x, t, h => by
    simp at h
    subst h
    simp
  | l :: r, i + 1, x, t, h => by
    have ih := flat_modify r i x t (by simpa using h)
    simp only [List.flatten_cons, List.modify_succ_cons]
    exact (ih.append_left l).trans List.perm_middle
theorem total_flat (rs : List (List GE)) : totalR rs = rs.flatten.length := by
  unfold totalR
  rw [List.length_flatten]
theorem merge_perm : ∀ (n : Nat) (rs : List (List GE)), totalR rs ≤ n → (mergeR n rs).Perm rs.flatten
  | 0, rs, h => by
    have : rs.flatten = [] := List.eq_nil_of_length_eq_zero (by rw [← total_flat]; omega)
    rw [this]
    exact List.Perm.refl _
  | n + 1, rs, h => by
    rw [mergeR]
    cases hb : bestR rs with
    | none =>
      have h2 := (bestFrom_none rs 0 none hb).2
      have : rs.flatten = [] := List.flatten_eq_nil_iff.2 h2
      rw [this]
    | some p =>
      obtain ⟨i, x⟩ := p
      obtain ⟨t, ht, _⟩ := bestR_some hb
      have hp := flat_modify rs i x t ht
      refine ((merge_perm n _ ?_).cons x).trans hp.symm
      have := hp.length_eq
      rw [List.length_cons] at this
      rw [total_flat] at h ⊢
      omega
theorem merge_sorted : ∀ (n : Nat) (rs : List (List GE)), totalR rs ≤ n → (∀ l ∈ rs, SortedR l) → SortedR (mergeR n rs)
  | 0, _, _, _ => by simp [mergeR, SortedR]
  | n + 1, rs, h, hs => by
    rw [mergeR]
    cases hb : bestR rs with
    | none => simp [SortedR]
    | some p =>
      obtain ⟨i, x⟩ := p
      obtain ⟨t, ht, hmin⟩ := bestR_some hb
      have hp := flat_modify rs i x t ht
      have hlen := hp.length_eq
      rw [List.length_cons] at hlen
      have htot : totalR (rs.modify i List.tail) ≤ n := by rw [total_flat] at h ⊢; omega
      have hs2 : ∀ l ∈ rs.modify i List.tail, SortedR l := by
        intro l hl
        obtain ⟨k, hk⟩ := List.mem_iff_getElem?.1 hl
        rw [List.getElem?_modify] at hk
        cases hq : rs[k]? with
        | none => rw [hq] at hk; simp at hk
        | some m =>
          rw [hq] at hk
          have hm := hs m (List.mem_of_getElem? hq)
          simp only [Option.map_eq_map, Option.map_some, Option.some.injEq] at hk
          split at hk
          · rw [← hk]; unfold SortedR at hm ⊢; exact hm.tail
          · rw [← hk]; exact hm
      show SortedR (x :: mergeR n (rs.modify i List.tail))
      unfold SortedR
      rw [List.pairwise_cons]
      refine ⟨fun z hz => ?_, merge_sorted n _ htot hs2⟩
      have hz2 : z ∈ rs.flatten := hp.mem_iff.2 (List.mem_cons_of_mem _ ((merge_perm n _ htot).mem_iff.1 hz))
      obtain ⟨l, hl, hzl⟩ := List.mem_flatten.1 hz2
      cases l with
      | nil => simp at hzl
      | cons y s =>
        have h1 := hmin _ hl y s rfl
        rcases List.mem_cons.1 hzl with rfl | hzl
        · exact h1
        · have h2 := hs _ hl
          unfold SortedR at h2
          exact leR_trans h1 ((List.pairwise_cons.1 h2).1 z hzl)
/-- Merging lists that are sorted is sorting. -/
theorem merge_is {n : Nat} {rs : List (List GE)} {l : List GE} (h : totalR rs ≤ n) (hs : ∀ m ∈ rs, SortedR m) (hp : rs.flatten.Perm l) : mergeR n rs = sortR l :=
  sorted_is (merge_sorted n rs h hs) ((merge_perm n rs h).trans hp)
/-! ### batches -/
theorem chunks_flat (k : Nat) (hk : 0 < k) : ∀ (n : Nat) (l : List GE), l.length ≤ n → (chunks k n l).flatten = l
  | 0, l, h => by
    obtain rfl : l = [] := List.eq_nil_of_length_eq_zero (by omega)
    rfl
  | n + 1, l, h => by
    rw [chunks]
    split
    · rename_i e
      rw [e]; rfl
    · rename_i e
      have hl : 0 < l.length := List.length_pos_iff.2 e
      rw [List.flatten_cons, chunks_flat k hk n _ (by rw [List.length_drop]; omega), List.take_append_drop]
def batchesR (k : Nat) (l : List GE) : List (List GE) := (chunks k l.length l).map sortR
theorem flat_sort : ∀ (bs : List (List GE)), (bs.map sortR).flatten.Perm bs.flatten
  | [] => List.Perm.refl _
  | b :: r => by
    rw [List.map_cons, List.flatten_cons, List.flatten_cons]
    exact (sortR_perm b).append (flat_sort r)
/-- Sorting in batches and merging is sorting at once. -/
theorem sortAll_is {k n : Nat} (hk : 0 < k) {l : List GE} (hn : l.length ≤ n) : mergeR n (batchesR k l) = sortR l := by
  have hp : (batchesR k l).flatten.Perm l := by
    have := flat_sort (chunks k l.length l)
    rw [chunks_flat k hk _ l (Nat.le_refl _)] at this
    exact this
  refine merge_is (by rw [total_flat, hp.length_eq]; exact hn) (fun m hm => ?_) hp
  obtain ⟨b, _, rfl⟩ := List.mem_map.1 hm
  exact sortR_sorted b
end Go.Proofs.Ytpgnappddddlpaa
namespace Go.Proofs.Ytpgnappddddlpaa

inductive Tr where
  | leaf (es : List GE)
  | pair (l : Tr) (hl : Option GE) (r : Tr) (hr : Option GE)
/-- Is the right side's first record given out? -/
def goR : Option GE → Option GE → Bool
  | none, _ => true
  | some _, none => false
  | some x, some y => lessR y x
def Tr.next : Tr → Option GE × Tr
  | .leaf [] => (none, .leaf [])
  | .leaf (e :: r) => (some e, .leaf r)
  | .pair l hl r hr => if goR hl hr then (hr, .pair l hl r.next.2 r.next.1) else (hl, .pair l.next.2 l.next.1 r hr)
/-- A first record has been drawn out of what stood for the lists rs. -/
def Drawn (R : List (List GE) → Prop) (h : Option GE) (rs : List (List GE)) : Prop :=
  match bestR rs with
  | none => h = none ∧ R rs
  | some (i, x) => h = some x ∧ R (rs.modify i List.tail)
def Rep : Tr → List (List GE) → Prop
  | .leaf es, rs => rs = [es]
  | .pair l hl r hr, rs => ∃ a b, rs = a ++ b ∧ Drawn (Rep l) hl a ∧ Drawn (Rep r) hr b
theorem bestFrom_append : ∀ (u v : List (List GE)) (i : Nat) (b : Option (Nat × GE)), bestFrom i b (u ++ v) = bestFrom (i + u.length) (bestFrom i b u) v
  | [], v, i, b => by simp [bestFrom]
  | [] :: r, v, i, b => by
    rw [List.cons_append, bestFrom, bestFrom_append r v, bestFrom, List.length_cons]
    congr 1; omega
  | (x :: t) :: r, v, i, none => by
    rw [List.cons_append, bestFrom, bestFrom_append r v, bestFrom, List.length_cons]
    congr 1; omega
  | (x :: t) :: r, v, i, some (j, y) => by
    rw [List.cons_append, bestFrom, bestFrom_append r v, bestFrom, List.length_cons]
    congr 1; omega
def shiftB (d : Nat) (p : Nat × GE) : Nat × GE := (d + p.1, p.2)
theorem bestFrom_shift (d : Nat) : ∀ (v : List (List GE)) (i : Nat) (b : Option (Nat × GE)), bestFrom (d + i) (b.map (shiftB d)) v = (bestFrom i b v).map (shiftB d)
  | [], i, b => by simp [bestFrom]
  | [] :: r, i, b => by rw [bestFrom, bestFrom, ← bestFrom_shift d r (i + 1) b, Nat.add_assoc]
  | (x :: t) :: r, i, none => by
    have := bestFrom_shift d r (i + 1) (some (i, x))
    rw [bestFrom, ← this]
    rfl
  | (x :: t) :: r, i, some (j, y) => by
    have := bestFrom_shift d r (i + 1) (if lessR x y then some (i, x) else some (j, y))
    rw [bestFrom, ← this, Option.map_some, shiftB, bestFrom]
    congr 1
    split <;> rfl
theorem bestFrom_from : ∀ (v : List (List GE)) (k i : Nat) (x : GE), bestFrom k (some (i, x)) v = match bestFrom k none v with
    | none => some (i, x)
    | some (j, y) => if lessR y x then some (j, y) else some (i, x)
  | [], k, i, x => by simp [bestFrom]
  | [] :: r, k, i, x => by rw [bestFrom, bestFrom_from r]; rfl
  | (z :: t) :: r, k, i, x => by
    rw [bestFrom, bestFrom, bestFrom_from r (k + 1) k z]
    by_cases h1 : lessR z x = true
    · rw [if_pos h1, bestFrom_from r (k + 1) k z]
      cases bestFrom (k + 1) none r with
      | none => simp [h1]
      | some p =>
        obtain ⟨j, y⟩ := p
        simp only
        by_cases h2 : lessR y z = true
        · have h3 : lessR y x = true := by rw [lessR_iff] at *; omega
          rw [if_pos h2]; simp [h3]
        · rw [if_neg h2]; simp [h1]
    · rw [if_neg h1, bestFrom_from r (k + 1) i x]
      cases bestFrom (k + 1) none r with
      | none => simp [h1]
      | some p =>
        obtain ⟨j, y⟩ := p
        simp only
        by_cases h2 : lessR y z = true
        · rw [if_pos h2]
        · have h3 : ¬ lessR y x = true := by
            have a1 : lessR z x = false := by simpa using h1
            have a2 : lessR y z = false := by simpa using h2
            rw [lessR_no] at a1 a2
            rw [lessR_iff]
            omega
          rw [if_neg h2]; simp [h1, h3]
theorem bestR_append (a b : List (List GE)) : bestR (a ++ b) = match bestR a, bestR b with
    | none, q => q.map (shiftB a.length)
    | some p, none => some p
    | some (i, x), some (j, y) => if lessR y x then some (a.length + j, y) else some (i, x) := by
  unfold bestR
  rw [bestFrom_append, Nat.zero_add]
  have hs := bestFrom_shift a.length b 0 none
  rw [Nat.add_zero, Option.map_none] at hs
  cases ha : bestFrom 0 none a with
  | none => rw [hs]
  | some p =>
    obtain ⟨i, x⟩ := p
    rw [bestFrom_from, hs]
    cases hb : bestFrom 0 none b with
    | none => rfl
    | some q =>
      obtain ⟨j, y⟩ := q
      rfl
theorem modify_left {α : Type} (f : α → α) : ∀ (a b : List α) (i : Nat), i < a.length → (a ++ b).modify i f = a.modify i f ++ b
  | [], _, _, h => by simp at h
  | x :: r, b, 0, _ => by simp
  | x :: r, b, i + 1, h => by
    rw [List.cons_append, List.modify_succ_cons, modify_left f r b i (by simpa using h), List.modify_succ_cons, List.cons_append]
theorem modify_right {α : Type} (f : α → α) : ∀ (a b : List α) (j : Nat), (a ++ b).modify (a.length + j) f = a ++ b.modify j f
  | [], b, j => by simp
  | x :: r, b, j => by
    rw [List.cons_append, List.length_cons, show r.length + 1 + j = (r.length + j) + 1 by omega, List.modify_succ_cons, modify_right f r b j, List.cons_append]
theorem bestR_lt {rs : List (List GE)} {i : Nat} {x : GE} (h : bestR rs = some (i, x)) : i < rs.length := by
  obtain ⟨t, ht, _⟩ := bestR_some h
  exact (List.getElem?_eq_some_iff.1 ht).1
theorem drawn_of_none {R : List (List GE) → Prop} {h : Option GE} {rs : List (List GE)} (hb : bestR rs = none) (h1 : h = none) (h2 : R rs) : Drawn R h rs := by
  unfold Drawn
  rw [hb]
  exact ⟨h1, h2⟩
theorem drawn_of_some {R : List (List GE) → Prop} {h : Option GE} {rs : List (List GE)} {i : Nat} {x : GE} (hb : bestR rs = some (i, x)) (h1 : h = some x) (h2 : R (rs.modify i List.tail)) : Drawn R h rs := by
  unfold Drawn
  rw [hb]
  exact ⟨h1, h2⟩
theorem next_drawn : ∀ (t : Tr) (rs : List (List GE)), Rep t rs → Drawn (Rep t.next.2) t.next.1 rs
  | .leaf [], rs, h => by
    simp only [Rep] at h
    subst h
    exact ⟨rfl, rfl⟩
  | .leaf (e :: r), rs, h => by
    simp only [Rep] at h
    subst h
    exact ⟨rfl, rfl⟩
  | .pair l hl r hr, rs, h => by
    obtain ⟨a, b, rfl, ha, hb⟩ := h
    have ha0 := ha
    have hb0 := hb
    have hap := bestR_append a b
    unfold Drawn at ha hb
    cases ea : bestR a with
    | none =>
      rw [ea] at ha hap
      obtain ⟨rfl, ha⟩ := ha
      have hn : (Tr.pair l none r hr).next = (hr, .pair l none r.next.2 r.next.1) := by rw [Tr.next, if_pos (by rfl)]
      rw [hn]
      cases eb : bestR b with
      | none =>
        rw [eb] at hb hap
        exact drawn_of_none hap hb.1 ⟨a, b, rfl, ha0, next_drawn r b hb.2⟩
      | some q =>
        obtain ⟨j, y⟩ := q
        rw [eb] at hb hap
        exact drawn_of_some (i := a.length + j) (x := y) hap hb.1 ⟨a, b.modify j List.tail, modify_right _ _ _ _, ha0, next_drawn r _ hb.2⟩
    | some p =>
      obtain ⟨i, x⟩ := p
      rw [ea] at ha hap
      obtain ⟨rfl, ha⟩ := ha
      have hi := bestR_lt ea
      cases eb : bestR b with
      | none =>
        rw [eb] at hb hap
        obtain ⟨rfl, hb⟩ := hb
        have hn : (Tr.pair l (some x) r none).next = (some x, .pair l.next.2 l.next.1 r none) := by rw [Tr.next, if_neg (by simp [goR])]
        rw [hn]
        exact drawn_of_some hap rfl ⟨a.modify i List.tail, b, modify_left _ _ _ _ hi, next_drawn l _ ha, hb0⟩
      | some q =>
        obtain ⟨j, y⟩ := q
        rw [eb] at hb hap
        obtain ⟨rfl, hb⟩ := hb
        cases hlt : lessR y x with
        | true =>
          have hn : (Tr.pair l (some x) r (some y)).next = (some y, .pair l (some x) r.next.2 r.next.1) := by rw [Tr.next, if_pos (by simp [goR, hlt])]
          rw [hn]
          simp only [hlt, if_true] at hap
          exact drawn_of_some (i := a.length + j) hap rfl ⟨a, b.modify j List.tail, modify_right _ _ _ _, ha0, next_drawn r _ hb⟩
        | false =>
          have hn : (Tr.pair l (some x) r (some y)).next = (some x, .pair l.next.2 l.next.1 r (some y)) := by rw [Tr.next, if_neg (by simp [goR, hlt])]
          rw [hn]
          simp only [hlt, Bool.false_eq_true, if_false] at hap
          exact drawn_of_some hap rfl ⟨a.modify i List.tail, b, modify_left _ _ _ _ hi, next_drawn l _ ha, hb0⟩
/-- Two trees under a new pair. -/
theorem pair_rep {l r : Tr} {a b : List (List GE)} (hl : Rep l a) (hr : Rep r b) : Rep (.pair l.next.2 l.next.1 r.next.2 r.next.1) (a ++ b) :=
  ⟨a, b, rfl, next_drawn l a hl, next_drawn r b hr⟩

/-! ### merging to the end -/
def mergeAll (rs : List (List GE)) : List GE := mergeR (totalR rs) rs
theorem total_step {rs : List (List GE)} {i : Nat} {x : GE} (h : bestR rs = some (i, x)) : totalR rs = totalR (rs.modify i List.tail) + 1 := by
  obtain ⟨t, ht, _⟩ := bestR_some h
  have hp := (flat_modify rs i x t ht).length_eq
  rw [total_flat, total_flat, hp, List.length_cons]
theorem merge_none {rs : List (List GE)} (h : bestR rs = none) : mergeAll rs = [] := by
  unfold mergeAll
  cases hn : totalR rs with
  | zero => rfl
  | succ n => rw [mergeR, h]
theorem merge_step {rs : List (List GE)} {i : Nat} {x : GE} (h : bestR rs = some (i, x)) : mergeAll rs = x :: mergeAll (rs.modify i List.tail) := by
  unfold mergeAll
  rw [total_step h, mergeR, h]
theorem mergeAll_len (rs : List (List GE)) : (mergeAll rs).length = totalR rs := by
  rw [total_flat]
  exact (merge_perm _ rs (Nat.le_refl _)).length_eq
theorem mergeAll_sort {k : Nat} (hk : 0 < k) (l : List GE) : mergeAll (batchesR k l) = sortR l := by
  have h := sortAll_is (k := k) (n := totalR (batchesR k l)) hk (l := l) (by
    rw [total_flat]
    have := flat_sort (chunks k l.length l)
    rw [chunks_flat k hk _ l (Nat.le_refl _)] at this
    exact Nat.le_of_eq this.length_eq.symm)
  exact h
end Go.Proofs.Ytpgnappddddlpaa
namespace Go.Proofs.Ytpgnappddddlpaa

theorem chunks_fuel (k : Nat) (hk : 0 < k) : ∀ (n m : Nat) (l : List GE), l.length ≤ n → l.length ≤ m → chunks k n l = chunks k m l
  | 0, 0, _, _, _ => rfl
  | 0, m + 1, l, h, _ => by
    obtain rfl : l = [] := List.eq_nil_of_length_eq_zero (by omega)
    simp [chunks]
  | n + 1, 0, l, _, h => by
    obtain rfl : l = [] := List.eq_nil_of_length_eq_zero (by omega)
    simp [chunks]
  | n + 1, m + 1, l, h1, h2 => by
    rw [chunks, chunks]
    split
    · rfl
    · rename_i hl
      have : 0 < l.length := List.length_pos_iff.2 hl
      rw [chunks_fuel k hk n m (l.drop k) (by rw [List.length_drop]; omega) (by rw [List.length_drop]; omega)]
theorem batchesR_nil (k : Nat) : batchesR k [] = [] := by simp [batchesR, chunks]
theorem batchesR_step {k : Nat} (hk : 0 < k) {l : List GE} (h : 0 < l.length) : batchesR k l = sortR (l.take k) :: batchesR k (l.drop k) := by
  obtain ⟨n, hn⟩ : ∃ n, l.length = n + 1 := ⟨l.length - 1, by omega⟩
  unfold batchesR
  rw [hn, chunks, if_neg (by intro e; rw [e] at h; simp at h), List.map_cons, chunks_fuel k hk n (l.drop k).length (l.drop k) (by rw [List.length_drop]; omega) (Nat.le_refl _)]
def batchesZ (b : Int) (l : List GE) : List (List GE) := if b < 1 then [] else batchesR b.toNat l
theorem batchesZ_no {b : Int} {l : List GE} (h : b < 1) : batchesZ b l = [] := if_pos h
theorem batchesZ_yes {b : Int} {l : List GE} (h : 1 ≤ b) : batchesZ b l = batchesR b.toNat l := if_neg (by omega)
theorem batches_more {b p q : Nat} (hb : 0 < b) {l : List GE} (hp : p < l.length) (hq : q = b ∨ (l.length - p ≤ b ∧ q = l.length - p)) : batchesR b (l.drop p) = sortR ((l.drop p).take q) :: batchesR b (l.drop (p + q)) := by
  rw [batchesR_step hb (by rw [List.length_drop]; omega), List.drop_drop]
  rcases hq with rfl | ⟨h1, rfl⟩
  · rfl
  · rw [List.take_of_length_le (by rw [List.length_drop]; omega), List.take_of_length_le (by rw [List.length_drop]; omega), List.drop_eq_nil_of_le (i := p + b) (by omega), List.drop_eq_nil_of_le (i := p + (l.length - p)) (by omega)]
theorem total_batches {b : Nat} (hb : 0 < b) (l : List GE) : totalR (batchesR b l) = l.length := by
  rw [total_flat]
  have := flat_sort (chunks b l.length l)
  rw [chunks_flat b hb _ l (Nat.le_refl _)] at this
  exact this.length_eq
theorem count_batches {b : Nat} (hb : 0 < b) : ∀ (n : Nat) (l : List GE), l.length ≤ n → (batchesR b l).length ≤ n
  | 0, l, h => by
    obtain rfl : l = [] := List.eq_nil_of_length_eq_zero (by omega)
    simp [batchesR_nil]
  | n + 1, l, h => by
    rcases Nat.eq_zero_or_pos l.length with h0 | h0
    · obtain rfl : l = [] := List.eq_nil_of_length_eq_zero h0
      simp [batchesR_nil]
    · rw [batchesR_step hb h0, List.length_cons]
      have := count_batches hb n (l.drop b) (by rw [List.length_drop]; omega)
      omega
theorem countZ (b : Int) (l : List GE) : (batchesZ b l).length ≤ l.length ∧ totalR (batchesZ b l) ≤ l.length := by
  by_cases h : b < 1
  · rw [batchesZ_no h]; simp [totalR]
  · rw [batchesZ_yes (by omega)]
    exact ⟨count_batches (by omega) _ l (Nat.le_refl _), by rw [total_batches (by omega)]; exact Nat.le_refl _⟩
end Go.Proofs.Ytpgnappddddlpaa
namespace Go.Proofs.Ytpgnappddddlpaa
open Go.RowKit

set_option maxRecDepth 100000 in
set_option maxHeartbeats 4000000 in
theorem specBatches (A : Option Addr) (n c : Nat) (es : List GE) (b : Int) (w : World) (hr : SlG w A n es) (hn : n ≤ 1048576) (hc : n ≤ c) :
    Calls Try.prog 152 #[.slice A n c, .int .i64 b] w (MadeT w (batchesZ b es)) := by
  obtain ⟨i0, hi, hz0, hz1, hz2⟩ := info_parts Try.infoBatch
  have HR := Lib.hid hr
  have HL := Lib.hid hr.len
  clear hr
  by_cases hb : b < 1
  · have HV := Lib.hid (batchesZ_no (l := es) hb)
    go_enter Try.func152, Try.ntmps152
    go_wp2
    go_ret
    exact ⟨_, _, _, [], rfl, ⟨bat_built w, rfl, OwnL.nil⟩, by rw [HV.out]; rfl, below_a1 _ _⟩
  · obtain ⟨bn, rfl⟩ : ∃ bn : Nat, b = bn := ⟨b.toNat, by omega⟩
    have hb1 : 1 ≤ bn := by omega
    have HV := Lib.hid (batchesZ_yes (b := (bn : Int)) (l := es) (by omega))
    have hbi : (1 : Int) ≤ (bn : Int) := by omega
    clear hb
    go_enter Try.func152, Try.ntmps152
    go_wp2
    go_loopw [5, 6] (fun v i wr => ∃ (p m cc : Nat) (P : Option Addr) (made : List BE), p ≤ n ∧ m ≤ p ∧ i = .int .i64 p ∧ v = .slice P m cc ∧ Hid (made.map BE.es ++ batchesR bn (es.drop p) = batchesR bn es) ∧ Hid (OwnT wr w.heap.size P m cc made) ∧ Hid (Below w.heap.size w wr)) (fun _ i _ => n - (intOf i).toNat)
    case atStart => exact ⟨0, 0, 0, _, [], Nat.zero_le _, Nat.le_refl _, rfl, rfl, Lib.hid rfl, Lib.hid ⟨bat_built w, rfl, OwnL.nil⟩, Lib.hid (below_a1 _ _)⟩
    case round =>
      obtain ⟨p, m, cc, P, made, hp, hm, rfl, rfl, hmade, hown, hbel⟩ := hrel
      by_cases hlt : p < n
      · by_cases hsm : (bn : Int) < (n : Int) - (p : Int)
        · obtain ⟨P', hrun, hsl⟩ := rec_mid (l := p) (m := bn) ((p : Int) + bn) HR.out rfl (by omega) hc
          have HMORE := Lib.hid (batches_more (b := bn) (p := p) (q := bn) hb1 (l := es) (by rw [HL.out]; exact hlt) (.inl rfl))
          have hne : ((p : Int) + bn == n) = false := by simp; omega
          have HSL := Lib.hid hsl
          have CS := Lib.hid (specSortOne P' bn (c - p) ((es.drop p).take bn) wr (HSL.out.below hbel.out) (by omega))
          clear hsl
          go_wp2_with fail
          refine CS.out.mono ?_
          rintro e w2 ⟨A2, c2, rfl, ho2, hb2⟩
          go_wp2_with (at_builtin; refine wpList_append_any _ rfl (.tmp 30) (.tmp 37) _ rfl w.heap.size 196 i0 _ 1 24 Try.underlying185 hi hz0 hz1 hz2 rfl (by omega) (.slice P m cc) m (made.flatMap BE.cells) rfl ((own_below hown.out.row hb2).alloc _) (w2.heap.size + 1) (some ⟨w2.heap.size, 0, none⟩) 1 1 (BE.cells ⟨A2, bn, c2, sortR ((es.drop p).take bn)⟩) rfl (bat_reads _ _ _ _ rfl) (BE.cells_one _) (by simp only [maxLen]; omega) (by omega) (by have := hbel.out.size; have := hb2.size; simp; omega) ?_; intro v3 w3 hown3 hg3 hat3)
          obtain ⟨P3, cc3, rfl⟩ := rec_form hown3
          have hone : OwnL w2 wr.heap.size [⟨A2, bn, c2, sortR ((es.drop p).take bn)⟩] := OwnL.one (d := ⟨A2, bn, c2, sortR ((es.drop p).take bn)⟩) ho2 (by rw [sortR_len]; exact HSL.out.len)
          have hall := (hown.out.dat.below hb2).append (hone.mono hbel.out.size) (apartT_of_time hown.out.dat (Nat.le_refl _) hone (Nat.le_refl _))
          have hrow := (own_below hown.out.row hb2).alloc (.cells #[.slice A2 bn c2] 196)
          have hall2 := (hall.below (below_a1 w2 (.cells #[.slice A2 bn c2] 196))).grow hrow (by decide) hg3
          have HT3 : Hid (OwnT w3 w.heap.size P3 (m + 1) cc3 (made ++ [⟨A2, bn, c2, sortR ((es.drop p).take bn)⟩])) := Lib.hid ⟨by rw [List.flatMap_append]; simpa using hown3, by simp [hown.out.len], hall2⟩
          have HB3 : Hid (Below w.heap.size w w3) := Lib.hid ((g_chain (g_chain hbel.out hb2) (below_a1 w2 _)).grown hg3 (by have := hbel.out.size; have := hb2.size; simp; omega) (fun j hj => (hown.out.row.lt j hj).1))
          clear hone hall hrow hall2 hown3 hg3 hat3 ho2 hb2
          go_wp2
          go_roundw
          case rel => exact ⟨p + bn, m + 1, cc3, P3, _, by omega, by omega, by go_num, rfl, Lib.hid (by rw [← hmade.out, HMORE.out, List.map_append, List.append_assoc]; rfl), HT3, HB3⟩
          case measure => simp [intOf]; omega
        · obtain ⟨q, hq⟩ : ∃ q, p + q = n := ⟨n - p, by omega⟩
          obtain ⟨P', hrun, hsl⟩ := rec_mid (l := p) (m := q) (n : Int) HR.out (by omega) (by omega) hc
          have HMORE : Hid (batchesR bn (es.drop p) = [sortR ((es.drop p).take q)]) := Lib.hid (by
            rw [batches_more (b := bn) (p := p) (q := q) hb1 (l := es) (by rw [HL.out]; exact hlt) (.inr ⟨by rw [HL.out]; omega, by rw [HL.out]; omega⟩), (List.drop_eq_nil_of_le (by rw [HL.out]; omega) : es.drop (p + q) = []), batchesR_nil])
          have hqn : q ≤ 1048576 := by omega
          clear hq
          have HSL := Lib.hid hsl
          have CS := Lib.hid (specSortOne P' q (c - p) ((es.drop p).take q) wr (HSL.out.below hbel.out) (by omega))
          clear hsl
          go_wp2_with fail
          refine CS.out.mono ?_
          rintro e w2 ⟨A2, c2, rfl, ho2, hb2⟩
          go_wp2_with (at_builtin; refine wpList_append_any _ rfl (.tmp 30) (.tmp 37) _ rfl w.heap.size 196 i0 _ 1 24 Try.underlying185 hi hz0 hz1 hz2 rfl (by omega) (.slice P m cc) m (made.flatMap BE.cells) rfl ((own_below hown.out.row hb2).alloc _) (w2.heap.size + 1) (some ⟨w2.heap.size, 0, none⟩) 1 1 (BE.cells ⟨A2, q, c2, sortR ((es.drop p).take q)⟩) rfl (bat_reads _ _ _ _ rfl) (BE.cells_one _) (by simp only [maxLen]; omega) (by omega) (by have := hbel.out.size; have := hb2.size; simp; omega) ?_; intro v3 w3 hown3 hg3 hat3)
          obtain ⟨P3, cc3, rfl⟩ := rec_form hown3
          have hone : OwnL w2 wr.heap.size [⟨A2, q, c2, sortR ((es.drop p).take q)⟩] := OwnL.one (d := ⟨A2, q, c2, sortR ((es.drop p).take q)⟩) ho2 (by rw [sortR_len]; exact HSL.out.len)
          have hall := (hown.out.dat.below hb2).append (hone.mono hbel.out.size) (apartT_of_time hown.out.dat (Nat.le_refl _) hone (Nat.le_refl _))
          have hrow := (own_below hown.out.row hb2).alloc (.cells #[.slice A2 q c2] 196)
          have hall2 := (hall.below (below_a1 w2 (.cells #[.slice A2 q c2] 196))).grow hrow (by decide) hg3
          have HT3 : Hid (OwnT w3 w.heap.size P3 (m + 1) cc3 (made ++ [⟨A2, q, c2, sortR ((es.drop p).take q)⟩])) := Lib.hid ⟨by rw [List.flatMap_append]; simpa using hown3, by simp [hown.out.len], hall2⟩
          have HB3 : Hid (Below w.heap.size w w3) := Lib.hid ((g_chain (g_chain hbel.out hb2) (below_a1 w2 _)).grown hg3 (by have := hbel.out.size; have := hb2.size; simp; omega) (fun j hj => (hown.out.row.lt j hj).1))
          clear hone hall hrow hall2 hown3 hg3 hat3 ho2 hb2
          go_wp2
          go_ret
          exact ⟨_, _, _, _, rfl, HT3.out, by rw [HV.out, Int.toNat_natCast, ← hmade.out, HMORE.out, List.map_append]; rfl, HB3.out⟩
      · obtain rfl : p = n := by omega
        go_wp2
        go_ret
        have h := hmade.out
        rw [List.drop_eq_nil_of_le (by rw [HL.out]; exact Nat.le_refl _), batchesR_nil, List.append_nil] at h
        exact ⟨_, _, _, made, rfl, hown.out, by rw [HV.out, Int.toNat_natCast, h], hbel.out⟩
end Go.Proofs.Ytpgnappddddlpaa
