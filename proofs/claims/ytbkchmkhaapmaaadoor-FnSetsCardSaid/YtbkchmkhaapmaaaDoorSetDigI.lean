/- The contract of the program's function that takes a set's checksum. -/
import Derived.Test.YtbkchmkhaapmaaaDoorSetOkI
import Derived.Test.YtbkchmkhaapmaaaDoorFrBytes
import Derived.Test.YtbkchmkhaapmaaaDoorPutVarImpl
import Derived.Test.YtbkchmkhaapmaaaDoorSetDig
namespace Go.Proofs.YtbkchmkhaapmaaaDoor
open Go.RowKit
set_option linter.unusedVariables false

set_option maxRecDepth 10000 in
set_option maxHeartbeats 8000000 in
theorem implDigest (N : Int) (A : Option Addr) (n c : Nat) (xs : List Nat) (w : World) (hw : Wts w) (hr : Rd w A n xs) (hn : n ≤ 2097152) :
    Calls Tryd.prog 20 #[.agg #[.int .i64 N, .slice A n c]] w (GNum w (digB N xs)) := by
  obtain ⟨i0, hi, hz0, hz1, hz2⟩ := info_parts Tryd.infoByte
  have HR := Lib.hid hr
  have HL := Lib.hid hr.len
  have HSM := Lib.hid hr.small
  have C1 := Lib.hid (fun W (h : Below w.heap.size w W) => implSetOk N A n c xs W (hw.below h) (hr.below h) hn)
  have HB0 := Lib.hid (SBx.new w N A n c)
  clear hr hw
  unfold digB
  cases hok : setB N xs with
  | false =>
    rw [hok] at C1
    rw [if_neg (by simp)]
    go_enter Tryd.func20, Tryd.ntmps20
    go_wp2_with fail
    refine (C1.out _ (below_a1 _ _)).mono ?_
    rintro e w1 ⟨rfl, hb1⟩
    go_wp2
    go_ret
    exact ⟨rfl, s_chain (below_a1 _ _) hb1⟩
  | true =>
    rw [hok] at C1
    rw [if_pos rfl]
    have hdim := setB_dim hok
    have hn20 : n ≤ 20 := by have h9 := hdim.2.2; rw [HL.out] at h9; unfold bytesN at h9; omega
    have C2 := Lib.hid (fun W => implPutVar none 0 0 N [] W Rd.nil (by omega))
    have HYS := Lib.hid (putVar_small [] N (by simp))
    have hyl := putVar_length [] N
    rw [List.length_nil, Nat.zero_add] at hyl
    obtain ⟨ys, hys⟩ : ∃ ys, Hid (putVar [] N = ys) := ⟨_, Lib.hid rfl⟩
    rw [hys.out] at C2 HYS hyl ⊢
    generalize numOk N = bk at C2
    clear hdim hok
    go_enter Tryd.func20, Tryd.ntmps20
    go_wp2_with fail
    refine (C1.out _ (below_a1 _ _)).mono ?_
    rintro e w1 ⟨rfl, hb1⟩
    have X0 := Lib.hid (HB0.out.below hb1)
    have HBW := Lib.hid (s_chain (below_a1 _ _) hb1)
    clear hb1 HB0
    obtain ⟨l0, c00, c01, f00, f01⟩ := X0.out.parts
    go_wp2_with fail
    refine (C2.out _).mono ?_
    rintro e w2 ⟨A2, c2, rfl, ho2, hb2⟩
    have Y0 := Lib.hid (X0.out.below hb2)
    have O2 := Lib.hid (own_monoG ho2 HBW.out.size)
    have HB2 := Lib.hid (s_chain HBW.out hb2)
    have HR2 := Lib.hid ((HR.out.below HB2.out).reads)
    clear hb2 ho2 l0 c00 c01 f00 f01
    obtain ⟨l0, c00, c01, f00, f01⟩ := Y0.out.parts
    go_wp2_with (at_builtin; refine wpList_append_any _ rfl (.tmp 14) (.tmp 16) 22 rfl w.heap.size 5 i0 _ 1 1 Tryd.underlying22 hi hz0 hz1 hz2 rfl (by omega) (.slice A2 ys.length c2) ys.length (vb ys) rfl O2.out w2.heap.size A n c (vb xs) rfl HR2.out (vb_oneCell xs) (by simp only [maxLen]; omega) (by omega) HB2.out.size ?_)
    intro v3 w3 hown3 hg3 _
    obtain ⟨A3, c3, rfl⟩ := own_form hown3
    rw [← vb_append] at hown3
    have HSM2 : Hid (∀ x ∈ ys ++ xs, x < 256) := Lib.hid (fun x hx => by rcases List.mem_append.1 hx with h | h; exact HYS.out x h; exact HSM.out x h)
    have R3 := Lib.hid (Rd.of_own hown3 HSM2.out)
    have HB3 := Lib.hid (HB2.out.grown hg3 HB2.out.size (fun k hk => (O2.out.lt k hk).1))
    clear hown3 hg3 l0 c00 c01 f00 f01
    have C3 := Lib.hid (implCrc A3 (ys.length + n) c3 (ys ++ xs) w3 R3.out (by omega))
    obtain ⟨z, hz⟩ : ∃ z, Hid (crcAll (ys ++ xs) ^^^ 4294967295 = z) := ⟨_, Lib.hid rfl⟩
    rw [hz.out] at C3
    go_wp2_with fail
    refine C3.out.mono ?_
    rintro e w4 ⟨rfl, hb4⟩
    go_wp2
    go_ret
    exact ⟨by rw [show crcV (ys ++ xs) = z from hz.out]; rfl, s_chain HB3.out hb4⟩
end Go.Proofs.YtbkchmkhaapmaaaDoor
