/- The walk of the law FnExactGetZig: it returns true and writes nothing that was there. -/
import Derived.Test.YtmjpckgagikdoaaGetZigSpec
import Derived.Test.YtmjpckgagikdoaaGetZigImpl
import Derived.Test.YtmjpckgagikdoaaCopy
namespace Go.Proofs.Ytmjpckgagikdoaa
open Go.RowKit

set_option maxRecDepth 10000 in
set_option maxHeartbeats 400000 in
theorem walkGetZig (a0 : Option Addr) (len0 cap0 : Nat) (z0 : List Int) (a1 : Int) (w : World) (w0 : IsRow .u8 w a0 len0 cap0 z0) (w1 : (Lit.int .i64 a1).wf = true) :
    Calls Try.prog 6 #[.slice a0 len0 cap0, .int .i64 a1] w fun e w' => e = .returned (.bool true) ∧ Below w.heap.size w w' := by
  obtain ⟨hlc, hcm, xs, hr⟩ := w0.rd
  obtain ⟨hb1, hb2⟩ := bounds_i64 w1
  clear w0 w1
  unfold maxLen at hcm
  by_cases hbig : len0 ≤ 1048576
  · obtain ⟨v, m, ok, hv⟩ : ∃ (v m : Int) (ok : Bool), gzVal xs a1 len0 = .tuple #[.int .i64 v, .int .i64 m, .bool ok] := ⟨_, _, _, rfl⟩
    have cs := fun A c W h h2 => specGetZig A len0 c a1 xs W h (by omega) h2
    have ci := fun A c W h => implGetZig A len0 c a1 xs W h (by omega)
    rw [hv] at cs ci
    have CS := Lib.hid cs
    have CI := Lib.hid ci
    have HL := Lib.hid hr.len
    clear cs ci hv
    go_enter Try.func6, Try.ntmps6
    go_wp2_with fail
    refine (copy_any a0 len0 cap0 xs w hr (by omega)).mono ?_
    rintro e wa ⟨A1, c1, rfl, ho1, hba⟩
    have hr1 := Rd.of_own ho1 hr.small
    go_wp2_with fail
    refine (CS.out A1 c1 wa hr1 (own_cap ho1)).mono ?_
    rintro e wb ⟨rfl, hbb⟩
    have hbb0 := hba.trans (hbb.mono hba.size)
    have hrb := hr.below hbb0
    go_wp2_with fail
    refine (copy_any a0 len0 cap0 xs wb hrb (by omega)).mono ?_
    rintro e wc ⟨A2, c2, rfl, ho2, hbc⟩
    have hr2 := Rd.of_own ho2 hr.small
    have hbc0 := hbb0.trans (hbc.mono hbb0.size)
    go_wp2_with fail
    refine (CI.out A2 c2 wc hr2).mono ?_
    rintro e wd ⟨rfl, rfl⟩
    have hrc := hr.below hbc0
    go_wp2_with fail
    refine (copy_any a0 len0 cap0 xs wc hrc (by omega)).mono ?_
    rintro e wd ⟨A3, c3, rfl, ho3, hbd⟩
    have hr3 := Rd.of_own ho3 hr.small
    have hbd0 := hbc0.trans (hbd.mono hbc0.size)
    go_wp2_with fail
    refine (same_any A2 A3 len0 c2 c3 xs wd (hr2.below hbd) hr3 (by omega)).mono ?_
    rintro e we ⟨rfl, k, rfl⟩
    go_wp2
    go_ret
    exact ⟨rfl, below_drewN hbd0 k⟩
  · go_enter Try.func6, Try.ntmps6
    go_wp2
    go_ret
    exact ⟨rfl, Below.refl _ _⟩
end Go.Proofs.Ytmjpckgagikdoaa
