/- The walk of the law FnNumbers, given that the library's table of powers of ten and its two errors hold what their text lays: it returns true and writes nothing that was there. -/
import Derived.Test.YtmjpckgagikdoaaDoorNumbersMath
import Derived.Test.YtmjpckgagikdoaaDoorDraw
import Derived.Test.YtmjpckgagikdoaaDoorPutVarImpl
import Derived.Test.YtmjpckgagikdoaaDoorPutZigImpl
import Derived.Test.YtmjpckgagikdoaaDoorPutFixImpl
import Derived.Test.YtmjpckgagikdoaaDoorGetVarImpl
import Derived.Test.YtmjpckgagikdoaaDoorGetZigImpl
import Derived.Test.YtmjpckgagikdoaaDoorGetFixImpl
import Derived.Test.YtmjpckgagikdoaaDoorCrcImpl
import Derived.Test.YtmjpckgagikdoaaDoorTextNum
namespace Go.Proofs.YtmjpckgagikdoaaDoor
open Go.RowKit

set_option maxRecDepth 20000 in
set_option maxHeartbeats 2000000 in
theorem walkNumbers (a0 : Option Addr) (len0 cap0 : Nat) (z0 : List Int) (w : World) (w0 : IsRow .u8 w a0 len0 cap0 z0) (ht : Pow10 w) (he : Errs w) :
    Calls Tryd.prog 3 #[.slice a0 len0 cap0] w fun e w' => e = .returned (.bool true) ∧ Below w.heap.size w w' := by
  obtain ⟨hlc, hcm, xs, hr⟩ := w0.rd
  clear w0
  unfold maxLen at hcm
  by_cases hbig : len0 ≤ 1048576
  · have C1 := Lib.hid (makeBytes a0 len0 cap0 xs w hr (by omega))
    have HT := Lib.hid ht
    have HE := Lib.hid he
    clear hr ht he
    go_enter Tryd.func3, Tryd.ntmps3
    go_wp2_with fail
    refine C1.out.mono ?_
    rintro e wa ⟨ys, B, d, hyl, hsm, rfl, hoa, hba⟩
    have R1 := Lib.hid (Rd.of_own hoa hsm)
    have HSM := Lib.hid hsm
    obtain ⟨la, hla⟩ : ∃ la, la = ys.length := ⟨_, rfl⟩
    have HLA := Lib.hid hla
    have hla40 : la ≤ 40 := by omega
    have CC := Lib.hid (implCrc B ys.length d ys wa R1.out (by omega))
    have hvb : crcAll ys ^^^ 4294967295 < 4294967296 := by
      have h1 := crcAll_lt ys hsm ys.length
      rw [List.take_length] at h1
      exact xor_lt32 h1 (by omega)
    generalize crcAll ys ^^^ 4294967295 = v at CC hvb
    have hv48 : v ≤ 281474976710655 := by omega
    clear hsm hoa hyl
    go_wp2_with fail
    refine CC.out.mono ?_
    rintro e wb ⟨rfl, hbb⟩
    have hbb0 := hba.trans (hbb.mono hba.size)
    have R2 := Lib.hid (R1.out.below hbb)
    have CP := Lib.hid (implPutVar_yes B ys.length d v ys wb R2.out (by omega) hv48)
    have hPs : ∀ x ∈ ys ++ digits 6 v, x < 256 := by
      intro x hx
      rcases List.mem_append.1 hx with hx | hx
      · exact HSM.out x hx
      · exact digits_bytes 6 v (by omega) x hx
    have hPl : (ys ++ digits 6 v).length ≤ 47 := by have := digits_length 6 v; rw [List.length_append]; omega
    have RV := Lib.hid (read_var ys v hv48)
    generalize ys ++ digits 6 v = P at CP hPs hPl RV
    have HPS := Lib.hid hPs
    clear hPs
    go_wp2_with fail
    refine CP.out.mono ?_
    rintro e wc ⟨Ap, cp, rfl, hop, hbc⟩
    have hbc0 := hbb0.trans (hbc.mono hbb0.size)
    have R3 := Lib.hid (Rd.of_own hop HPS.out)
    have CG := Lib.hid (implGetVar Ap P.length cp (ys.length : Int) P wc R3.out (by omega))
    rw [RV.out] at CG
    go_wp2_with fail
    refine CG.out.mono ?_
    rintro e wd ⟨rfl, rfl⟩
    have CZ := Lib.hid (implPutZig Ap P.length cp (-(v : Int)) P wc R3.out (by omega))
    have hzok : zigOk (-(v : Int)) = true := by unfold zigOk; exact decide_eq_true ⟨by omega, by omega⟩
    rw [hzok] at CZ
    have RZ := Lib.hid (read_zig P (-(v : Int)) hzok)
    have hQs := putZig_small P (-(v : Int)) HPS.out
    have hQl := putZig_length P (-(v : Int))
    generalize putZig P (-(v : Int)) = Q at CZ RZ hQs hQl
    have HQS := Lib.hid hQs
    clear hQs hzok
    go_wp2_with fail
    refine CZ.out.mono ?_
    rintro e wd ⟨Aq, cq, rfl, hoq, hbd⟩
    have hbd0 := hbc0.trans (hbd.mono hbc0.size)
    have R4 := Lib.hid (Rd.of_own hoq HQS.out)
    have CY := Lib.hid (implGetZig Aq Q.length cq (P.length : Int) Q wd R4.out (by omega))
    rw [RZ.out] at CY
    go_wp2_with fail
    refine CY.out.mono ?_
    rintro e we ⟨rfl, rfl⟩
    have CF := Lib.hid (implPutFix_yes Aq Q.length cq v Q wd R4.out (by omega) hv48)
    have hRl : (Q ++ fixBytes v 6).length = Q.length + 6 := by rw [List.length_append, fixBytes_length]
    have hRs : ∀ x ∈ Q ++ fixBytes v 6, x < 256 := by
      intro x hx
      rcases List.mem_append.1 hx with hx | hx
      · exact HQS.out x hx
      · simp only [fixBytes, List.mem_map] at hx
        obtain ⟨j, _, rfl⟩ := hx
        unfold fixByte
        omega
    have RF := Lib.hid (read_fix Q v hv48)
    generalize Q ++ fixBytes v 6 = R at CF hRl hRs RF
    have HRS := Lib.hid hRs
    have HRL := Lib.hid hRl
    have hRb : R.length ≤ 100 := by omega
    clear hRs hRl
    go_wp2_with fail
    refine CF.out.mono ?_
    rintro e we ⟨Ar, cr, rfl, hor, hbe⟩
    have hbe0 := hbd0.trans (hbe.mono hbd0.size)
    have R5 := Lib.hid (Rd.of_own hor HRS.out)
    have CX := Lib.hid (implGetFix Ar R.length cr (Q.length : Int) R we R5.out (by omega) (by omega) (by omega))
    rw [RF.out] at CX
    go_wp2_with fail
    refine CX.out.mono ?_
    rintro e wf ⟨rfl, rfl⟩
    have CT0 := implText_yes v we hv48 (HT.out.below hbe0)
    unfold TextRes at CT0
    have CT := Lib.hid CT0
    have hSd : tnVal (⟨(Lib.decDigits v).toArray⟩ : ByteArray).data.toList = .tuple #[.int .i64 (v : Int), .bool true] := by
      have h1 := tnVal_yes _ (tn_dec v hv48)
      rw [val10_dec] at h1
      exact h1
    have hSs : (⟨(Lib.decDigits v).toArray⟩ : ByteArray).size ≤ 1048576 := by
      have := decDigits_le v hv48
      simp only [ByteArray.size, List.size_toArray]
      omega
    generalize (⟨(Lib.decDigits v).toArray⟩ : ByteArray) = S at CT hSd hSs
    have CU := Lib.hid (fun W h1 h2 => implTextNum S W hSs h1 h2)
    rw [hSd] at CU
    clear CT0 hSd
    go_wp2_with fail
    refine CT.out.mono ?_
    rintro e wf ⟨rfl, hbf⟩
    have hbf0 := hbe0.trans (hbf.mono hbe0.size)
    go_wp2_with fail
    refine (CU.out wf (HT.out.below hbf0) (HE.out.below hbf0)).mono ?_
    rintro e wg ⟨rfl, hbg⟩
    have hbg0 := hbf0.trans (hbg.mono hbf0.size)
    have hl6 : ((R.length : Nat) : Int) = (Q.length : Int) + 6 := by rw [HRL.out]; omega
    go_wp2
    go_ret
    exact ⟨rfl, hbg0⟩
  · clear ht he hr
    go_enter Tryd.func3, Tryd.ntmps3
    go_wp2
    go_ret
    exact ⟨rfl, Below.refl _ _⟩
end Go.Proofs.YtmjpckgagikdoaaDoor
