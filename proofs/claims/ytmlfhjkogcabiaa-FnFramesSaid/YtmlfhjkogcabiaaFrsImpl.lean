/- The contract of the program's FramesRead. Condition: at most 2^20 bytes. -/
import Derived.Test.YtmlfhjkogcabiaaFrsMath
import Derived.Test.YtmlfhjkogcabiaaFrCatch
import Derived.Test.YtmlfhjkogcabiaaAppend
namespace Go.Proofs.Ytmlfhjkogcabiaa
open Go.RowKit

/-- Frames of the call's own, and the place where reading stopped. -/
def FrsRes (w : World) (r : List (Int × List Nat) × Int) (e : Ending) (w' : World) : Prop :=
  ∃ A c es, e = .returned (.tuple #[.slice A es.length c, .int .i64 r.2]) ∧ es.map FrE.fr = r.1 ∧ OwnR w' w.heap.size A es.length c es ∧ Below w.heap.size w w'

set_option maxRecDepth 10000 in
set_option maxHeartbeats 4000000 in
theorem implFrames (A : Option Addr) (n c : Nat) (xs : List Nat) (w : World) (hr : Rd w A n xs) (hn : n ≤ 1048576) (hc : n ≤ c) :
    Calls Try.prog 19 #[.slice A n c] w (FrsRes w (frsAll xs)) := by
  obtain ⟨i0, hi, hz0, hz1, hz2⟩ := info_parts Try.infoFrame
  have CR := Lib.hid (fun a W (h : Below w.heap.size w W) => implFrameRead A n c xs a W (hr.below h) hn hc)
  have hl := hr.len
  have HS := Lib.hid hr.small
  clear hr
  go_enter Try.func19, Try.ntmps19
  go_wp2
  go_loopw [4, 5] (fun v p wr => ∃ (out : List FrE) (a : Int) (fuel : Nat), p = .int .i64 a ∧ 0 ≤ a ∧ a ≤ n ∧ (out.length : Int) * 20 ≤ a ∧ Hid (FrsAt xs (out.map FrE.fr) a fuel) ∧ Hid (wr.ownsRow w.heap.size 45 2 v out.length (out.flatMap FrE.cells)) ∧ Hid (OwnB wr w.heap.size (out.map FrE.d)) ∧ Hid (Below w.heap.size w wr)) (fun _ p _ => (n + 1) - (intOf p).toNat)
  case atStart => exact ⟨[], 0, _, rfl, by omega, by omega, by simp, Lib.hid (FrsAt.start xs), Lib.hid (World.ownsRow_nil _ _ _ _), Lib.hid OwnB.nil, Lib.hid (Below.refl _ _)⟩
  case round =>
    obtain ⟨out, a, fuel, rfl, ha0, ha1, hal, hat, hown, hdat, hbel⟩ := hrel
    have C := Lib.hid (CR.out a wr hbel.out)
    have HST := Lib.hid (fun h => (hat.out).step (xs := xs) h)
    have HSP := Lib.hid (fun h => (hat.out).stop (xs := xs) h)
    have HNX := Lib.hid (fun h => frR_next (xs := xs) (a := a) h)
    have hsm := frR_small xs a HS.out
    clear hat
    generalize frR xs a = R at C HST HSP HNX hsm
    obtain ⟨⟨kd, data⟩, nx, cd⟩ := R
    have HSM : Hid (∀ x ∈ data, x < 256) := Lib.hid hsm.1
    have hdl : data.length ≤ 60000 := hsm.2
    simp only at HST HSP HNX
    clear hsm
    go_wp2_with fail
    refine C.out.mono ?_
    rintro e w1 ⟨A2, c2, rfl, ho1, hb1⟩
    simp only at ho1
    have HO1 := Lib.hid ho1
    have HB1 := Lib.hid hb1
    have HR1 := Lib.hid (own_below hown.out hb1)
    have HD1 := Lib.hid (hdat.out.below hb1)
    have HC1 := Lib.hid (fr_chain hbel.out hb1)
    have X2 := Lib.hid (Box2.new w1 (.int .i64 kd) (.slice A2 data.length c2) 45)
    clear ho1 hb1
    by_cases hcd : cd = 0
    · subst hcd
      have hz : ((0 : Int) == 0) = true := by simp
      obtain ⟨f, _, hst⟩ := HST.out rfl
      have HST2 := Lib.hid hst
      obtain ⟨n1, n2, n3⟩ := HNX.out rfl
      subst n2
      obtain ⟨l0, x0, x1⟩ := X2.out
      have B2 := Lib.hid (below_a1 w1 (.cells #[.int .i64 kd, .slice A2 data.length c2] 45))
      clear HST HSP HNX hst
      go_wp2_with (at_builtin; refine wpList_append_any _ rfl (.tmp 20) (.tmp 22) 42 rfl w.heap.size 45 i0 _ 2 32 Try.underlying42 hi hz0 hz1 hz2 rfl (by omega) _ out.length (out.flatMap FrE.cells) rfl ((own_below HR1.out B2.out).alloc _) (w1.heap.size + 1 + 1) (some ⟨w1.heap.size + 1, 0, none⟩) 1 1 [.int .i64 kd, .slice A2 data.length c2] rfl (fr_two _ _ _ _ (w1.heap.size + 1) (by simp)) (FrE.cells_one ⟨kd, ⟨A2, data.length, c2, data⟩⟩) (by simp only [maxLen]; omega) (by omega) (by have := HC1.out.size; simp; omega) ?_; intro v4 w4 hown4 hg4 hat4)
      go_roundw
      case rel =>
        have hb23 := below_a2 w1 (.cells #[.int .i64 kd, .slice A2 data.length c2] 45) (.cells #[.int .i64 kd, .slice A2 data.length c2] 45)
        have hone : OwnB w1 wr.heap.size [⟨A2, data.length, c2, data⟩] := OwnB.one (d := ⟨A2, data.length, c2, data⟩) HO1.out HSM.out
        have hall := HD1.out.append (hone.mono hbel.out.size) (apart_of_time hdat.out (Nat.le_refl _) hone (Nat.le_refl _))
        have hrow := own_below HR1.out hb23
        have hall2 := fr_grow (hall.below hb23) hrow (by decide) hg4
        refine ⟨out ++ [⟨kd, ⟨A2, data.length, c2, data⟩⟩], a + 20 + data.length, f, by go_num, by omega, by omega, by simp; omega, Lib.hid (by rw [List.map_append]; exact HST2.out), Lib.hid (by rw [flat_snoc, List.length_append]; exact hown4), Lib.hid (by rw [List.map_append]; exact hall2), Lib.hid ?_⟩
        exact (fr_chain HC1.out hb23).grown hg4 (by have := HC1.out.size; simp; omega) (fun j hj => (hown.out.lt j hj).1)
      case measure => simp [intOf]; omega
    · have hz : (cd == 0) = false := by simp; exact hcd
      have HV := Lib.hid (HSP.out hcd)
      obtain ⟨A4, c4, rfl⟩ := fr_form hown.out
      clear HST HSP HNX
      go_wp2
      go_ret2
      rw [HV.out]
      exact ⟨A4, c4, out, rfl, rfl, ⟨own_below HR1.out (below_a1 _ _), rfl, HD1.out.below (below_a1 _ _)⟩, fr_chain HC1.out (below_a1 _ _)⟩
end Go.Proofs.Ytmlfhjkogcabiaa
