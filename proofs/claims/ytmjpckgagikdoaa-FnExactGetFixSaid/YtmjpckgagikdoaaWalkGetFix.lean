/- The walk of the law FnExactGetFix: it returns true and writes nothing that was there. -/
import Derived.Test.YtmjpckgagikdoaaGetFixSpec
import Derived.Test.YtmjpckgagikdoaaGetFixImpl
import Derived.Test.YtmjpckgagikdoaaCopy
namespace Go.Proofs.Ytmjpckgagikdoaa
open Go.RowKit

theorem fixVal_form (xs : List Nat) (a : Int) (n : Nat) : ∃ (v : Int) (ok : Bool), fixVal xs a n = .tuple #[.int .i64 v, .bool ok] := ⟨_, _, rfl⟩

set_option maxHeartbeats 400000 in
theorem walkGetFix (a0 : Option Addr) (len0 cap0 : Nat) (z0 : List Int) (a1 : Int) (w : World) (w0 : IsRow .u8 w a0 len0 cap0 z0) (w1 : (Lit.int .i64 a1).wf = true) :
    Calls Try.prog 8 #[.slice a0 len0 cap0, .int .i64 a1] w fun e w' => e = .returned (.bool true) ∧ Below w.heap.size w w' := by
  obtain ⟨hlc, hcm, xs, hr⟩ := w0.rd
  obtain ⟨hb1, hb2⟩ := bounds_i64 w1
  clear w0 w1
  unfold maxLen at hcm
  by_cases hbig : len0 ≤ 1048576
  · obtain ⟨v, ok, hv⟩ := fixVal_form xs a1 len0
    have cs := fun A c W h => specGetFix A len0 c a1 xs W h (by omega) hb1 hb2
    have ci := fun A c W h => implGetFix A len0 c a1 xs W h (by omega) hb1 hb2
    rw [hv] at cs ci
    have CS := Lib.hid cs
    have CI := Lib.hid ci
    have hl := hr.len
    have HL := Lib.hid hl
    clear cs ci hv hl
    go_enter Try.func8, Try.ntmps8
    go_wp2_with fail
    refine (copy_any a0 len0 cap0 xs w hr (by omega)).mono ?_
    rintro e wa ⟨A1, c1, rfl, ho1, hba⟩
    have hr1 := Rd.of_own ho1 hr.small
    go_wp2_with fail
    refine (CS.out A1 c1 wa hr1).mono ?_
    rintro e wb ⟨rfl, rfl⟩
    have hra := hr.below hba
    go_wp2_with fail
    refine (copy_any a0 len0 cap0 xs wa hra (by omega)).mono ?_
    rintro e wb ⟨A2, c2, rfl, ho2, hbb⟩
    have hr2 := Rd.of_own ho2 hr.small
    go_wp2_with fail
    refine (CI.out A2 c2 wb hr2).mono ?_
    rintro e wc ⟨rfl, rfl⟩
    have hrb := hra.below hbb
    go_wp2_with fail
    refine (copy_any a0 len0 cap0 xs wb hrb (by omega)).mono ?_
    rintro e wc ⟨A3, c3, rfl, ho3, hbc⟩
    have hr3 := Rd.of_own ho3 hr.small
    go_wp2_with fail
    refine (same_any A2 A3 len0 c2 c3 xs wc (hr2.below hbc) hr3 (by omega)).mono ?_
    rintro e wd ⟨rfl, m, rfl⟩
    go_wp2
    go_ret
    exact ⟨rfl, below_drewN ((hba.trans (hbb.mono hba.size)).trans (hbc.mono (by have := hba.size; have := hbb.size; omega))) m⟩
  · go_enter Try.func8, Try.ntmps8
    go_wp2
    go_ret
    exact ⟨rfl, Below.refl _ _⟩
end Go.Proofs.Ytmjpckgagikdoaa
