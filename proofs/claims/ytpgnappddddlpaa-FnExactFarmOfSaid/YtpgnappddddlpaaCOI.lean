/- The contracts of the model's Less, Sorted and SortOne. Condition: at most 2^21 records. // The contract of the model's Batches. Condition: at most 2^20 records. -/
import Derived.Test.YtpgnappddddlpaaCOQ
import Derived.Test.YtpgnappddddlpaaCOA
import Derived.StillTailTactics
import Derived.Deep.RegionLaw
namespace Go.Proofs.Ytpgnappddddlpaa
open Go.RowKit

theorem less_f {a1 a2 a3 b1 b2 b3 : Int} (h : a1 ≠ b1) : lessR ⟨a1, a2, a3⟩ ⟨b1, b2, b3⟩ = decide (a1 < b1) := by simp [lessR, h]
theorem less_t {a1 a2 a3 b2 b3 : Int} (h : a2 ≠ b2) : lessR ⟨a1, a2, a3⟩ ⟨a1, b2, b3⟩ = decide (a2 < b2) := by simp [lessR, h]
theorem less_w {a1 a2 a3 b3 : Int} : lessR ⟨a1, a2, a3⟩ ⟨a1, a2, b3⟩ = decide (a3 < b3) := by simp [lessR]
set_option maxRecDepth 10000 in
set_option maxHeartbeats 1000000 in
theorem specLess (x y : GE) (w : World) :
    Calls Try.prog 161 #[.agg #[.int .i64 x.f, .int .i64 x.t, .int .i64 x.w], .agg #[.int .i64 y.f, .int .i64 y.t, .int .i64 y.w]] w (GTell w (lessR x y)) := by
  obtain ⟨a1, a2, a3⟩ := x
  obtain ⟨b1, b2, b3⟩ := y
  by_cases h1 : a1 = b1
  · subst h1
    by_cases h2 : a2 = b2
    · subst h2
      have HV := Lib.hid (less_w (a1 := a1) (a2 := a2) (a3 := a3) (b3 := b3))
      go_enter Try.func161, Try.ntmps161
      go_wp2
      go_ret
      exact ⟨g_bool HV.out.symm, below_a2 _ _ _⟩
    · have HV := Lib.hid (less_t (a1 := a1) (a2 := a2) (a3 := a3) (b2 := b2) (b3 := b3) h2)
      have e1 : (a2 != b2) = true := by simpa using h2
      go_enter Try.func161, Try.ntmps161
      go_wp2
      go_ret
      exact ⟨g_bool HV.out.symm, below_a2 _ _ _⟩
  · have HV := Lib.hid (less_f (a1 := a1) (a2 := a2) (a3 := a3) (b1 := b1) (b2 := b2) (b3 := b3) h1)
    have e1 : (a1 != b1) = true := by simpa using h1
    go_enter Try.func161, Try.ntmps161
    go_wp2
    go_ret
    exact ⟨g_bool HV.out.symm, below_a2 _ _ _⟩

/-- No record up to k comes before its predecessor. -/
def upTo (es : List GE) (k : Nat) : Prop := ∀ j, j + 1 < k → ∀ x y, es[j]? = some x → es[j + 1]? = some y → lessR y x = false
/-! ### SortOne -/
theorem le_more {s : List GE} {j : Nat} {x y : GE} (hy : s[j]? = some y) (h : ∀ z ∈ s.take j, lessR x z = false) (h2 : lessR x y = false) : ∀ z ∈ s.take (j + 1), lessR x z = false := by
  intro z hz
  rw [g_take s j y hy] at hz
  rcases List.mem_append.1 hz with hz | hz
  · exact h z hz
  · simp at hz
    subst hz
    exact h2
theorem sortR_step (es : List GE) (k : Nat) (x : GE) (h : es[k]? = some x) : sortR (es.take (k + 1)) = insR x (sortR (es.take k)) := by
  rw [g_take es k x h]
  unfold sortR
  rw [List.foldl_append]
  rfl
theorem sortR_len (es : List GE) : (sortR es).length = es.length := (sortR_perm es).length_eq
theorem sortR_at (es : List GE) (k n : Nat) (hk : k ≤ n) (hl : es.length = n) : (sortR (es.take k)).length = k := by
  rw [sortR_len, List.length_take]; omega

theorem rec_far {w : World} {lo e size n g : Nat} {v : Value} {xs : List Value} (h : w.ownsRow lo e size v n xs) (hg : g < lo) : v.ownBlock = none ∨ v.ownBlock ≠ some g :=
  .inr (fun e => by have := (h.lt g e).1; omega)

set_option maxRecDepth 100000 in
set_option maxHeartbeats 4000000 in
theorem specSortOne (A : Option Addr) (n c : Nat) (es : List GE) (w : World) (hr : SlG w A n es) (hn : n ≤ 2097152) :
    Calls Try.prog 162 #[.slice A n c] w (RowRc w n (sortR es)) := by
  obtain ⟨i0, hi, hz0, hz1, hz2⟩ := info_parts Try.infoRec
  have HR := Lib.hid hr
  have HL := Lib.hid hr.len
  clear hr
  go_enter Try.func162, Try.ntmps162
  go_wp2
  go_loopw [3, 11] (fun v i wr => ∃ (k g c1 : Nat), k ≤ n ∧ i = .int .i64 k ∧ v = .slice (some ⟨g, 0, none⟩) k c1 ∧ Hid (wr.ownsRow w.heap.size 150 3 (.slice (some ⟨g, 0, none⟩) k c1) k ((sortR (es.take k)).flatMap GE.cells)) ∧ Hid (Below w.heap.size w wr)) (fun _ i _ => n - (intOf i).toNat)
  case atStart => exact ⟨0, w.heap.size, 0, Nat.zero_le _, rfl, rfl, Lib.hid (rec_built w), Lib.hid (below_a1 _ _)⟩
  case round =>
    obtain ⟨k, g, c1, hk, rfl, rfl, hown, hbel⟩ := hrel
    by_cases hlt : k < n
    · obtain ⟨b, off, x, rfl, hbw, he, c0, d0, e0⟩ := HR.out.at_ hlt
      have c0 := (hbel.out.cell (p := ⟨b, off + k * 3, none⟩) hbw).trans c0
      have d0 := (hbel.out.cell (p := ⟨b, off + k * 3 + 1, none⟩) hbw).trans d0
      have e0 := (hbel.out.cell (p := ⟨b, off + k * 3 + 2, none⟩) hbw).trans e0
      have HST := Lib.hid (sortR_step es k x he.out)
      have HSL := Lib.hid (sortR_at es k n (by omega) HL.out)
      obtain ⟨s, hs⟩ : ∃ s, sortR (es.take k) = s := ⟨_, rfl⟩
      rw [hs] at hown HST HSL
      clear he hs
      have RB := Lib.hid (show RBox (wr.alloc (.cells #[.int .i64 x.f, .int .i64 x.t, .int .i64 x.w] 150)) wr.heap.size x from ⟨by simp, by simp, by simp, by simp⟩)
      have HO := Lib.hid (hown.out.alloc (.cells #[.int .i64 x.f, .int .i64 x.t, .int .i64 x.w] 150))
      have HB := Lib.hid (g_chain hbel.out (below_a1 wr (.cells #[.int .i64 x.f, .int .i64 x.t, .int .i64 x.w] 150)))
      have HNE : Hid (g < wr.heap.size) := Lib.hid (hown.out.lt g rfl).2
      have HCAP : k ≤ c1 := own_capR hown.out
      go_wp2
      clear hown hbel c0 d0 e0
      generalize wr.alloc (.cells #[.int .i64 x.f, .int .i64 x.t, .int .i64 x.w] 150) = W0 at *
      obtain ⟨bx, hbx⟩ : ∃ bx, wr.heap.size = bx := ⟨_, rfl⟩
      rw [hbx] at RB HNE ⊢
      clear hbx
      have HS := Lib.hid (SlG.of_own HO.out HSL.out)
      go_loopw [6] (fun a wi => ∃ j : Nat, j ≤ k ∧ a = .int .i64 j ∧ Hid (∀ y ∈ s.take j, lessR x y = false) ∧ Hid (Below W0.heap.size W0 wi)) (fun a _ => k - (intOf a).toNat)
      case atStart => exact ⟨0, Nat.zero_le _, by go_num, Lib.hid (by simp), Lib.hid (Below.refl _ _)⟩
      case round =>
        obtain ⟨j, hj, rfl, hle, hbi⟩ := hrel
        by_cases hjk : j < k
        · obtain ⟨b', off', y, hA, hbw', hy, p0, p1, p2⟩ := HS.out.at_ hjk
          obtain ⟨rfl, rfl⟩ : g = b' ∧ 0 = off' := by injection hA with hA; injection hA with h1 h2; exact ⟨h1, h2⟩
          have p0 := (hbi.out.cell (p := ⟨g, 0 + j * 3, none⟩) hbw').trans p0
          have p1 := (hbi.out.cell (p := ⟨g, 0 + j * 3 + 1, none⟩) hbw').trans p1
          have p2 := (hbi.out.cell (p := ⟨g, 0 + j * 3 + 2, none⟩) hbw').trans p2
          rw [Nat.zero_add] at p0 p1 p2
          obtain ⟨q3, q0, q1, q2⟩ := RB.out.below hbi.out
          clear hA q3
          have HC := Lib.hid (fun W => specLess x y W)
          obtain ⟨r, hr⟩ : ∃ r, lessR x y = r := ⟨_, rfl⟩
          have HZ := Lib.hid hr
          rw [hr] at HC
          clear hr
          go_wp2_with fail
          refine wp_region_still_tail 10 (by kernel_rfl) (by kernel_rfl) ?_
          simp only [List.take_succ_cons, List.take_zero, List.drop_succ_cons, List.drop_zero]
          change wpStill _ _ (World.drew _) _ _ _
          repeat still_step
          refine wpStill_nil ?_
          change wpList _ _ _ _ _ (World.drew _)
          have HBI := Lib.hid hbi.out.drew
          clear hbi q0 q1 q2 p0 p1 p2
          generalize World.drew wr = V at *
          cases r with
          | false =>
            go_wp2_with fail
            refine (HC.out _).mono ?_
            rintro e w1 ⟨rfl, hb⟩
            have HB1 := Lib.hid (g_chain HBI.out hb)
            clear hb
            go_wp2
            go_roundw
            case rel => exact ⟨j + 1, by omega, by go_num, Lib.hid (le_more hy.out hle.out HZ.out), HB1⟩
            case measure => simp [intOf]; omega
          | true =>
            have HI := Lib.hid (insR_at x s j hle.out (by rw [HSL.out]; exact hj) (fun z hz => by have := hy.out; rw [hz] at this; injection this with this; rw [this]; exact HZ.out))
            go_wp2_with fail
            refine (HC.out _).mono ?_
            rintro e V2 ⟨rfl, hb⟩
            have HBI := Lib.hid (g_chain HBI.out hb)
            clear hb HZ HC hle
            generalize V2 = V at *
            have HV := Lib.hid (g_chain HB.out HBI.out)
            have RBV := Lib.hid (RB.out.below HBI.out)
            have HOV := Lib.hid (own_below HO.out HBI.out)
            have HSV := SlG.of_own HOV.out HSL.out
            obtain ⟨P', hrun, hsl⟩ := rec_from HSV hj HCAP
            have HSD := Lib.hid hsl
            have HONE := Lib.hid (rec_one (s.drop j))
            have HON2 := Lib.hid (rec_one [x])
            have HVG : Hid (g < V.heap.size) := Lib.hid (HOV.out.lt g rfl).2
            have hrun2 := fun W => rec_most g k c1 j hj HCAP W
            have HPRE := Lib.hid (own_most HOV.out HSL.out hj)
            clear hsl HSV
            go_wp2_with (at_builtin; refine wpList_append_any _ rfl (.tmp 30) (.tmp 33) _ rfl V.heap.size 150 i0 _ 3 24 Try.underlying148 hi hz0 hz1 hz2 rfl (by omega) (.slice (some ⟨V.heap.size, 0, none⟩) 0 0) 0 [] rfl (rec_built V) V.heap.size P' (k - j) (c1 - j) ((s.drop j).flatMap GE.cells) rfl (HSD.out.row.reads.alloc (Nat.le_refl _) _) HONE.out (by simp only [maxLen]; omega) (by omega) (by simp) ?_; intro v1 w1 hown1 hg1 hat1)
            obtain ⟨A1, cc, rfl⟩ := rec_form hown1
            simp only [Nat.zero_add, List.nil_append] at hown1
            have HR1 := Lib.hid hown1
            have HVB := Lib.hid (rec_below hg1)
            have HPR1 := Lib.hid (own_below HPRE.out HVB.out)
            have RB1 := Lib.hid (RBV.out.below HVB.out)
            have HB1 := Lib.hid (g_chain HV.out HVB.out)
            have HGW : Hid (g < w1.heap.size) := Lib.hid (Nat.lt_of_lt_of_le HVG.out HVB.out.size)
            have hlw1 : w.heap.size ≤ w1.heap.size := HB1.out.size
            clear hown1 hg1 hat1 hrun
            obtain ⟨_, q0, q1, q2⟩ := RB1.out
            go_region_law (first
              | (refine step_append_any _ (by rfl) (.tmp 37) (.tmp 39) _ (by rfl) w.heap.size 150 i0 _ 3 24 Try.underlying148 hi hz0 hz1 hz2 rfl (by omega) (.slice (some ⟨g, 0, none⟩) j c1) j ((s.take j).flatMap GE.cells) (by rfl) (HPR1.out.alloc _) (w1.heap.size + 1) (some ⟨w1.heap.size, 0, none⟩) 1 1 (GE.cells x) (by rfl) (rec_reads _ x _ _ rfl) (by simpa using HON2.out) (by simp only [maxLen]; omega) (by omega) (by simp; omega) ?_; intro v2 w2 hown2 hg2 hat2; obtain ⟨A2, c2, rfl⟩ := rec_form hown2; have hlw2 : w.heap.size ≤ w2.heap.size := (by have := hg2.size; simp at this; omega); have HR2 : Hid (w2.ownsRow V.heap.size 150 3 (.slice A1 (k - j) cc) (k - j) ((s.drop j).flatMap GE.cells)) := Lib.hid (by first | exact (HR1.out.alloc _).kept hg2 (rec_far HR1.out HVG.out) | exact (HR1.out.alloc _).drew.kept hg2 (rec_far HR1.out HVG.out) | exact (HR1.out.drew.alloc _).kept hg2 (rec_far HR1.out HVG.out)))
              | (refine step_append_any _ (by rfl) (.tmp 40) (.tmp 41) _ (by rfl) w.heap.size 150 i0 _ 3 24 Try.underlying148 hi hz0 hz1 hz2 rfl (by omega) (.slice A2 (j + 1) c2) (j + 1) ((s.take j).flatMap GE.cells ++ GE.cells x) (by rfl) hown2 w2.heap.size A1 (k - j) cc ((s.drop j).flatMap GE.cells) (by rfl) (Row.of_own HR2.out).reads HONE.out (by simp only [maxLen]; omega) (by omega) hlw2 ?_; intro v3 w3 hown3 hg3 hat3))
            all_goals
              have HB3 : Hid (Below w.heap.size w w3) := Lib.hid ((Below.grown (by first | exact (HB1.out.alloc hlw1 _).grown hg2 (by simp; omega) (fun j' e => by have := HPR1.out.lt j' e; omega) | exact ((HB1.out.alloc hlw1 _).drew).grown hg2 (by simp; omega) (fun j' e => by have := HPR1.out.lt j' e; omega)) hg3 hlw2 (fun j' e => (hown2.lt j' e).1)))
              have hcs : (s.take j).flatMap GE.cells ++ GE.cells x ++ (s.drop j).flatMap GE.cells = (insR x s).flatMap GE.cells := by rw [HI.out]; simp
              have hnn : j + 1 + (k - j) = k + 1 := by omega
              rw [hcs, hnn, ← HST.out] at hown3
              obtain ⟨g3, c3, rfl, _⟩ := hown3.form (by omega)
              have HO3 := Lib.hid hown3
              clear hown2 hown3 hg2 hg3 hat2 hat3 hcs hnn q0 q1 q2 hrun2
              go_wp2
              go_roundw
              case rel => exact ⟨k + 1, g3, c3, by omega, by go_num, rfl, HO3, HB3⟩
              case measure => simp [intOf]; omega
        · have HI := Lib.hid (insR_at x s j hle.out (by rw [HSL.out]; exact hj) (fun z hz => by have := (List.getElem?_eq_some_iff.1 hz).1; have := HSL.out; omega))
          have hdf : decide (j < k) = false := by simpa using hjk
          have HBI := Lib.hid hbi.out
          go_wp2_with fail
          go_quiet (fail)
          have HBI := Lib.hid (below_drewN HBI.out nq)
          clear hbi hle hdf
          generalize World.drewN wr nq = V at *
          have HV := Lib.hid (g_chain HB.out HBI.out)
          have RBV := Lib.hid (RB.out.below HBI.out)
          have HOV := Lib.hid (own_below HO.out HBI.out)
          have HSV := SlG.of_own HOV.out HSL.out
          obtain ⟨P', hrun, hsl⟩ := rec_from HSV hj HCAP
          have HSD := Lib.hid hsl
          have HONE := Lib.hid (rec_one (s.drop j))
          have HON2 := Lib.hid (rec_one [x])
          have HVG : Hid (g < V.heap.size) := Lib.hid (HOV.out.lt g rfl).2
          have hrun2 := fun W => rec_most g k c1 j hj HCAP W
          have HPRE := Lib.hid (own_most HOV.out HSL.out hj)
          clear hsl HSV
          go_wp2_with (at_builtin; refine wpList_append_any _ rfl (.tmp 30) (.tmp 33) _ rfl V.heap.size 150 i0 _ 3 24 Try.underlying148 hi hz0 hz1 hz2 rfl (by omega) (.slice (some ⟨V.heap.size, 0, none⟩) 0 0) 0 [] rfl (rec_built V) V.heap.size P' (k - j) (c1 - j) ((s.drop j).flatMap GE.cells) rfl (HSD.out.row.reads.alloc (Nat.le_refl _) _) HONE.out (by simp only [maxLen]; omega) (by omega) (by simp) ?_; intro v1 w1 hown1 hg1 hat1)
          obtain ⟨A1, cc, rfl⟩ := rec_form hown1
          simp only [Nat.zero_add, List.nil_append] at hown1
          have HR1 := Lib.hid hown1
          have HVB := Lib.hid (rec_below hg1)
          have HPR1 := Lib.hid (own_below HPRE.out HVB.out)
          have RB1 := Lib.hid (RBV.out.below HVB.out)
          have HB1 := Lib.hid (g_chain HV.out HVB.out)
          have HGW : Hid (g < w1.heap.size) := Lib.hid (Nat.lt_of_lt_of_le HVG.out HVB.out.size)
          have hlw1 : w.heap.size ≤ w1.heap.size := HB1.out.size
          clear hown1 hg1 hat1 hrun
          obtain ⟨_, q0, q1, q2⟩ := RB1.out
          go_region_law (first
            | (refine step_append_any _ (by rfl) (.tmp 37) (.tmp 39) _ (by rfl) w.heap.size 150 i0 _ 3 24 Try.underlying148 hi hz0 hz1 hz2 rfl (by omega) (.slice (some ⟨g, 0, none⟩) j c1) j ((s.take j).flatMap GE.cells) (by rfl) (HPR1.out.alloc _) (w1.heap.size + 1) (some ⟨w1.heap.size, 0, none⟩) 1 1 (GE.cells x) (by rfl) (rec_reads _ x _ _ rfl) (by simpa using HON2.out) (by simp only [maxLen]; omega) (by omega) (by simp; omega) ?_; intro v2 w2 hown2 hg2 hat2; obtain ⟨A2, c2, rfl⟩ := rec_form hown2; have hlw2 : w.heap.size ≤ w2.heap.size := (by have := hg2.size; simp at this; omega); have HR2 : Hid (w2.ownsRow V.heap.size 150 3 (.slice A1 (k - j) cc) (k - j) ((s.drop j).flatMap GE.cells)) := Lib.hid (by first | exact (HR1.out.alloc _).kept hg2 (rec_far HR1.out HVG.out) | exact (HR1.out.alloc _).drew.kept hg2 (rec_far HR1.out HVG.out) | exact (HR1.out.drew.alloc _).kept hg2 (rec_far HR1.out HVG.out)))
            | (refine step_append_any _ (by rfl) (.tmp 40) (.tmp 41) _ (by rfl) w.heap.size 150 i0 _ 3 24 Try.underlying148 hi hz0 hz1 hz2 rfl (by omega) (.slice A2 (j + 1) c2) (j + 1) ((s.take j).flatMap GE.cells ++ GE.cells x) (by rfl) hown2 w2.heap.size A1 (k - j) cc ((s.drop j).flatMap GE.cells) (by rfl) (Row.of_own HR2.out).reads HONE.out (by simp only [maxLen]; omega) (by omega) hlw2 ?_; intro v3 w3 hown3 hg3 hat3))
          all_goals
            have HB3 : Hid (Below w.heap.size w w3) := Lib.hid ((Below.grown (by first | exact (HB1.out.alloc hlw1 _).grown hg2 (by simp; omega) (fun j' e => by have := HPR1.out.lt j' e; omega) | exact ((HB1.out.alloc hlw1 _).drew).grown hg2 (by simp; omega) (fun j' e => by have := HPR1.out.lt j' e; omega)) hg3 hlw2 (fun j' e => (hown2.lt j' e).1)))
            have hcs : (s.take j).flatMap GE.cells ++ GE.cells x ++ (s.drop j).flatMap GE.cells = (insR x s).flatMap GE.cells := by rw [HI.out]; simp
            have hnn : j + 1 + (k - j) = k + 1 := by omega
            rw [hcs, hnn, ← HST.out] at hown3
            obtain ⟨g3, c3, rfl, _⟩ := hown3.form (by omega)
            have HO3 := Lib.hid hown3
            clear hown2 hown3 hg2 hg3 hat2 hat3 hcs hnn q0 q1 q2 hrun2
            go_wp2
            go_roundw
            case rel => exact ⟨k + 1, g3, c3, by omega, by go_num, rfl, HO3, HB3⟩
            case measure => simp [intOf]; omega
    · have HE := Lib.hid (show sortR (es.take k) = sortR es by rw [List.take_of_length_le (by rw [HL.out]; omega)])
      obtain rfl : k = n := by omega
      go_wp2
      go_ret
      exact ⟨_, c1, rfl, by rw [← HE.out]; exact hown.out, hbel.out⟩
end Go.Proofs.Ytpgnappddddlpaa
namespace Go.Proofs.Ytpgnappddddlpaa
open Go.RowKit

set_option maxRecDepth 100000 in
set_option maxHeartbeats 4000000 in
theorem specBatches (A : Option Addr) (n c : Nat) (es : List GE) (b : Int) (w : World) (hr : SlG w A n es) (hn : n ≤ 1048576) (hc : n ≤ c) :
    Calls Try.prog 152 #[.slice A n c, .int .i64 b] w (MadeT w (batchesZ b es)) := by
  obtain ⟨i0, hi, hz0, hz1, hz2⟩ := info_parts Try.infoBatch
  have HR := Lib.hid hr
  have HL := Lib.hid hr.len
  clear hr
  by_cases hb : b < 1
  · have HV := Lib.hid (batchesZ_no (l := es) hb)
    go_enter Try.func152, Try.ntmps152
    go_wp2
    go_ret
    exact ⟨_, _, _, [], rfl, ⟨bat_built w, rfl, OwnL.nil⟩, by rw [HV.out]; rfl, below_a1 _ _⟩
  · obtain ⟨bn, rfl⟩ : ∃ bn : Nat, b = bn := ⟨b.toNat, by omega⟩
    have hb1 : 1 ≤ bn := by omega
    have HV := Lib.hid (batchesZ_yes (b := (bn : Int)) (l := es) (by omega))
    have hbi : (1 : Int) ≤ (bn : Int) := by omega
    clear hb
    go_enter Try.func152, Try.ntmps152
    go_wp2
    go_loopw [5, 6] (fun v i wr => ∃ (p m cc : Nat) (P : Option Addr) (made : List BE), p ≤ n ∧ m ≤ p ∧ i = .int .i64 p ∧ v = .slice P m cc ∧ Hid (made.map BE.es ++ batchesR bn (es.drop p) = batchesR bn es) ∧ Hid (OwnT wr w.heap.size P m cc made) ∧ Hid (Below w.heap.size w wr)) (fun _ i _ => n - (intOf i).toNat)
    case atStart => exact ⟨0, 0, 0, _, [], Nat.zero_le _, Nat.le_refl _, rfl, rfl, Lib.hid rfl, Lib.hid ⟨bat_built w, rfl, OwnL.nil⟩, Lib.hid (below_a1 _ _)⟩
    case round =>
      obtain ⟨p, m, cc, P, made, hp, hm, rfl, rfl, hmade, hown, hbel⟩ := hrel
      by_cases hlt : p < n
      · by_cases hsm : (bn : Int) < (n : Int) - (p : Int)
        · obtain ⟨P', hrun, hsl⟩ := rec_mid (l := p) (m := bn) ((p : Int) + bn) HR.out rfl (by omega) hc
          have HMORE := Lib.hid (batches_more (b := bn) (p := p) (q := bn) hb1 (l := es) (by rw [HL.out]; exact hlt) (.inl rfl))
          have hne : ((p : Int) + bn == n) = false := by simp; omega
          have HSL := Lib.hid hsl
          have CS := Lib.hid (specSortOne P' bn (c - p) ((es.drop p).take bn) wr (HSL.out.below hbel.out) (by omega))
          clear hsl
          go_wp2_with fail
          refine CS.out.mono ?_
          rintro e w2 ⟨A2, c2, rfl, ho2, hb2⟩
          go_wp2_with (at_builtin; refine wpList_append_any _ rfl (.tmp 30) (.tmp 37) _ rfl w.heap.size 196 i0 _ 1 24 Try.underlying185 hi hz0 hz1 hz2 rfl (by omega) (.slice P m cc) m (made.flatMap BE.cells) rfl ((own_below hown.out.row hb2).alloc _) (w2.heap.size + 1) (some ⟨w2.heap.size, 0, none⟩) 1 1 (BE.cells ⟨A2, bn, c2, sortR ((es.drop p).take bn)⟩) rfl (bat_reads _ _ _ _ rfl) (BE.cells_one _) (by simp only [maxLen]; omega) (by omega) (by have := hbel.out.size; have := hb2.size; simp; omega) ?_; intro v3 w3 hown3 hg3 hat3)
          obtain ⟨P3, cc3, rfl⟩ := rec_form hown3
          have hone : OwnL w2 wr.heap.size [⟨A2, bn, c2, sortR ((es.drop p).take bn)⟩] := OwnL.one (d := ⟨A2, bn, c2, sortR ((es.drop p).take bn)⟩) ho2 (by rw [sortR_len]; exact HSL.out.len)
          have hall := (hown.out.dat.below hb2).append (hone.mono hbel.out.size) (apartT_of_time hown.out.dat (Nat.le_refl _) hone (Nat.le_refl _))
          have hrow := (own_below hown.out.row hb2).alloc (.cells #[.slice A2 bn c2] 196)
          have hall2 := (hall.below (below_a1 w2 (.cells #[.slice A2 bn c2] 196))).grow hrow (by decide) hg3
          have HT3 : Hid (OwnT w3 w.heap.size P3 (m + 1) cc3 (made ++ [⟨A2, bn, c2, sortR ((es.drop p).take bn)⟩])) := Lib.hid ⟨by rw [List.flatMap_append]; simpa using hown3, by simp [hown.out.len], hall2⟩
          have HB3 : Hid (Below w.heap.size w w3) := Lib.hid ((g_chain (g_chain hbel.out hb2) (below_a1 w2 _)).grown hg3 (by have := hbel.out.size; have := hb2.size; simp; omega) (fun j hj => (hown.out.row.lt j hj).1))
          clear hone hall hrow hall2 hown3 hg3 hat3 ho2 hb2
          go_wp2
          go_roundw
          case rel => exact ⟨p + bn, m + 1, cc3, P3, _, by omega, by omega, by go_num, rfl, Lib.hid (by rw [← hmade.out, HMORE.out, List.map_append, List.append_assoc]; rfl), HT3, HB3⟩
          case measure => simp [intOf]; omega
        · obtain ⟨q, hq⟩ : ∃ q, p + q = n := ⟨n - p, by omega⟩
          obtain ⟨P', hrun, hsl⟩ := rec_mid (l := p) (m := q) (n : Int) HR.out (by omega) (by omega) hc
          have HMORE : Hid (batchesR bn (es.drop p) = [sortR ((es.drop p).take q)]) := Lib.hid (by
            rw [batches_more (b := bn) (p := p) (q := q) hb1 (l := es) (by rw [HL.out]; exact hlt) (.inr ⟨by rw [HL.out]; omega, by rw [HL.out]; omega⟩), (List.drop_eq_nil_of_le (by rw [HL.out]; omega) : es.drop (p + q) = []), batchesR_nil])
          have hqn : q ≤ 1048576 := by omega
          clear hq
          have HSL := Lib.hid hsl
          have CS := Lib.hid (specSortOne P' q (c - p) ((es.drop p).take q) wr (HSL.out.below hbel.out) (by omega))
          clear hsl
          go_wp2_with fail
          refine CS.out.mono ?_
          rintro e w2 ⟨A2, c2, rfl, ho2, hb2⟩
          go_wp2_with (at_builtin; refine wpList_append_any _ rfl (.tmp 30) (.tmp 37) _ rfl w.heap.size 196 i0 _ 1 24 Try.underlying185 hi hz0 hz1 hz2 rfl (by omega) (.slice P m cc) m (made.flatMap BE.cells) rfl ((own_below hown.out.row hb2).alloc _) (w2.heap.size + 1) (some ⟨w2.heap.size, 0, none⟩) 1 1 (BE.cells ⟨A2, q, c2, sortR ((es.drop p).take q)⟩) rfl (bat_reads _ _ _ _ rfl) (BE.cells_one _) (by simp only [maxLen]; omega) (by omega) (by have := hbel.out.size; have := hb2.size; simp; omega) ?_; intro v3 w3 hown3 hg3 hat3)
          obtain ⟨P3, cc3, rfl⟩ := rec_form hown3
          have hone : OwnL w2 wr.heap.size [⟨A2, q, c2, sortR ((es.drop p).take q)⟩] := OwnL.one (d := ⟨A2, q, c2, sortR ((es.drop p).take q)⟩) ho2 (by rw [sortR_len]; exact HSL.out.len)
          have hall := (hown.out.dat.below hb2).append (hone.mono hbel.out.size) (apartT_of_time hown.out.dat (Nat.le_refl _) hone (Nat.le_refl _))
          have hrow := (own_below hown.out.row hb2).alloc (.cells #[.slice A2 q c2] 196)
          have hall2 := (hall.below (below_a1 w2 (.cells #[.slice A2 q c2] 196))).grow hrow (by decide) hg3
          have HT3 : Hid (OwnT w3 w.heap.size P3 (m + 1) cc3 (made ++ [⟨A2, q, c2, sortR ((es.drop p).take q)⟩])) := Lib.hid ⟨by rw [List.flatMap_append]; simpa using hown3, by simp [hown.out.len], hall2⟩
          have HB3 : Hid (Below w.heap.size w w3) := Lib.hid ((g_chain (g_chain hbel.out hb2) (below_a1 w2 _)).grown hg3 (by have := hbel.out.size; have := hb2.size; simp; omega) (fun j hj => (hown.out.row.lt j hj).1))
          clear hone hall hrow hall2 hown3 hg3 hat3 ho2 hb2
          go_wp2
          go_ret
          exact ⟨_, _, _, _, rfl, HT3.out, by rw [HV.out, Int.toNat_natCast, ← hmade.out, HMORE.out, List.map_append]; rfl, HB3.out⟩
      · obtain rfl : p = n := by omega
        go_wp2
        go_ret
        have h := hmade.out
        rw [List.drop_eq_nil_of_le (by rw [HL.out]; exact Nat.le_refl _), batchesR_nil, List.append_nil] at h
        exact ⟨_, _, _, made, rfl, hown.out, by rw [HV.out, Int.toNat_natCast, h], hbel.out⟩
end Go.Proofs.Ytpgnappddddlpaa
