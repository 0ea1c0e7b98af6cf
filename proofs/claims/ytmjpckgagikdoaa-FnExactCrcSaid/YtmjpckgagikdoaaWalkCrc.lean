/- The walk of the law FnExactCrc: it returns true and writes nothing that was there. -/
import Derived.Test.YtmjpckgagikdoaaCrcSpec
import Derived.Test.YtmjpckgagikdoaaCrcImpl
import Derived.Test.YtmjpckgagikdoaaCopy
namespace Go.Proofs.Ytmjpckgagikdoaa
open Go.RowKit

set_option maxRecDepth 10000 in
set_option maxHeartbeats 400000 in
theorem walkCrc (a0 : Option Addr) (len0 cap0 : Nat) (z0 : List Int) (w : World) (w0 : IsRow .u8 w a0 len0 cap0 z0) :
    Calls Try.prog 9 #[.slice a0 len0 cap0] w fun e w' => e = .returned (.bool true) ∧ Below w.heap.size w w' := by
  obtain ⟨hlc, hcm, xs, hr⟩ := w0.rd
  clear w0
  unfold maxLen at hcm
  by_cases hbig : len0 ≤ 1048576
  · have CS := Lib.hid (fun A c W h => specCrc A len0 c xs W h (by omega))
    have CI := Lib.hid (fun A c W h => implCrc A len0 c xs W h (by omega))
    generalize crcAll xs ^^^ 4294967295 = v at CS CI
    have HL := Lib.hid hr.len
    go_enter Try.func9, Try.ntmps9
    go_wp2_with fail
    refine (copy_any a0 len0 cap0 xs w hr (by omega)).mono ?_
    rintro e wa ⟨A1, c1, rfl, ho1, hba⟩
    have hr1 := Rd.of_own ho1 hr.small
    go_wp2_with fail
    refine (CS.out A1 c1 wa hr1).mono ?_
    rintro e wb ⟨rfl, rfl⟩
    have hra := hr.below hba
    go_wp2_with fail
    refine (copy_any a0 len0 cap0 xs wa hra (by omega)).mono ?_
    rintro e wb ⟨A2, c2, rfl, ho2, hbb⟩
    have hr2 := Rd.of_own ho2 hr.small
    have hbb0 := hba.trans (hbb.mono hba.size)
    go_wp2_with fail
    refine (CI.out A2 c2 wb hr2).mono ?_
    rintro e wc ⟨rfl, hbc⟩
    have hbc0 := hbb0.trans (hbc.mono hbb0.size)
    have hrc := hr.below hbc0
    go_wp2_with fail
    refine (copy_any a0 len0 cap0 xs wc hrc (by omega)).mono ?_
    rintro e wd ⟨A3, c3, rfl, ho3, hbd⟩
    have hr3 := Rd.of_own ho3 hr.small
    have hbd0 := hbc0.trans (hbd.mono hbc0.size)
    go_wp2_with fail
    refine (same_any A2 A3 len0 c2 c3 xs wd ((hr2.below hbc).below hbd) hr3 (by omega)).mono ?_
    rintro e we ⟨rfl, k, rfl⟩
    go_wp2
    go_ret
    exact ⟨rfl, below_drewN hbd0 k⟩
  · go_enter Try.func9, Try.ntmps9
    go_wp2
    go_ret
    exact ⟨rfl, Below.refl _ _⟩
end Go.Proofs.Ytmjpckgagikdoaa
