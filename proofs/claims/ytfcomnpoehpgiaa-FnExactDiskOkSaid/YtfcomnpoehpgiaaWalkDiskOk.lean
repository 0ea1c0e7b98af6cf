/- The walk of the law FnExactDiskOk: it returns true and writes nothing that was there. -/
import Derived.Test.YtfcomnpoehpgiaaWeight
namespace Go.Proofs.Ytfcomnpoehpgiaa
open Go.RowKit

set_option maxRecDepth 20000 in
set_option maxHeartbeats 4000000 in
theorem walkDiskOk (room fuse : Int) (A : Option Addr) (n c : Nat) (B : Option Addr) (m d : Nat) (es : List Ent) (os : List OpE) (w : World) (hin : DiskIn w room fuse A n B m es os) :
    Calls Try.prog 6 #[.agg #[.int .i64 room, .int .i64 fuse, .slice A n c, .slice B m d]] w fun e w' => e = .returned (.bool true) ∧ Below w.heap.size w w' := by
  have CZ := Lib.hid (fun o => hin.sz (below_a1 w o) c d 1048576 (by omega) (by omega))
  by_cases hb : (((ddOf room fuse es os).weight : Nat) : Int) ≤ 1048576
  · rw [szI_pos hb] at CZ
    have hp : (0 : Int) ≤ 1048576 - (((ddOf room fuse es os).weight : Nat) : Int) := by omega
    generalize (1048576 : Int) - (((ddOf room fuse es os).weight : Nat) : Int) = q at CZ hp
    have MM := Lib.hid (hin.meant (by omega))
    obtain ⟨r, hr⟩ : ∃ r, r = ddOf room fuse es os := ⟨_, rfl⟩
    have e1 : room = r.room := by rw [hr]; rfl
    have e2 : fuse = r.fuse := by rw [hr]; rfl
    rw [← hr] at MM
    subst e1 e2
    have CT := Lib.hid (fun W (h : Below w.heap.size w W) => (MM.out.below h).copy c d)
    have CS := Lib.hid (fun W A n c B m d es os (h : Meant W r A n B m es os) => specOk r A n c B m d es os W h.f h.o h.hf h.ho h.wt)
    have CI := Lib.hid (fun W A n c B m d es os (h : Meant W r A n B m es os) => implOkD r A n c B m d es os W h.f h.o h.hf h.ho h.wt)
    have HW := Lib.hid MM.out.wt
    generalize r.ok = ok at CS CI
    clear hin hb hr
    go_enter Try.func6, Try.ntmps6
    go_wp2_with fail
    refine (CZ.out _).mono ?_
    rintro e wa ⟨rfl, hba⟩
    have B0 := Lib.hid ((ABox.first w r.room r.fuse A n c B m d 52).below hba)
    obtain ⟨l0, c00, c01, c02, c03⟩ := B0.out.box
    clear hba
    go_wp2_with fail
    refine (CT.out _ B0.out.keep).mono ?_
    rintro e wb ⟨A1, c1, B1, d1, es1, os1, rfl, hf1, ho1, hd1, hbb⟩
    have B1x := Lib.hid (B0.out.below hbb)
    have M1 := Lib.hid (meant_made hd1 hf1 ho1 HW.out)
    clear hbb hd1 hf1 ho1 c00 c01 c02 c03 l0
    go_wp2_with fail
    refine (CS.out _ _ _ _ _ _ _ _ _ M1.out).mono ?_
    rintro e wc ⟨rfl, hbc⟩
    have B2 := Lib.hid (B1x.out.below hbc)
    obtain ⟨l0, c00, c01, c02, c03⟩ := B2.out.box
    clear hbc
    go_wp2_with fail
    refine (CT.out _ B2.out.keep).mono ?_
    rintro e wd ⟨A2, c2, B2', d2, es2, os2, rfl, hf2, ho2, hd2, hbd⟩
    have B3 := Lib.hid ((B2.out.below hbd).below (below_a1 wd (.cells #[.int .i64 r.room, .int .i64 r.fuse, .slice A2 es2.length c2, .slice B2' os2.length d2] 26)))
    have M3 := Lib.hid ((meant_made hd2 hf2 ho2 HW.out).below (below_a1 wd (.cells #[.int .i64 r.room, .int .i64 r.fuse, .slice A2 es2.length c2, .slice B2' os2.length d2] 26)))
    have X3 := Lib.hid (Box4.new wd (.int .i64 r.room) (.int .i64 r.fuse) (.slice A2 es2.length c2) (.slice B2' os2.length d2) 26)
    clear hbd hd2 hf2 ho2 c00 c01 c02 c03 l0
    go_wp2_with fail
    refine (CI.out _ _ _ _ _ _ _ _ _ M3.out).mono ?_
    rintro e we ⟨rfl, hbe⟩
    have B4 := Lib.hid (B3.out.below hbe)
    have X4 := Lib.hid (X3.out.below hbe)
    have M4 := Lib.hid (M3.out.below hbe)
    obtain ⟨l0, c00, c01, c02, c03⟩ := B4.out.box
    obtain ⟨l1, c10, c11, c12, c13⟩ := X4.out
    clear hbe
    go_wp2
    go_region_with (first
      | (go_at_call 35; ((with_reducible refine (CT.out _ (by first | exact B4.out.keep | exact B4.out.keep.drew | exact B4.out.keep.drew.drew)).mono ?_)); rintro e wf ⟨A3, c3, B3', d3, es3, os3, rfl, hf3, ho3, hd3, hbf⟩; obtain ⟨l2, c20, c21, c22, c23⟩ := X4.out.keep hbf.size (hbf.block _ X4.out.lt); have M5 := Lib.hid (M4.out.below (W := wf) (by first | exact hbf | exact ⟨hbf.os, hbf.tape, hbf.output, hbf.size, hbf.block⟩)); have M6 := Lib.hid (meant_made hd3 hf3 ho3 HW.out))
      | (go_at_call 36; ((with_reducible refine (M5.out.eq M6.out _ _ _ _).mono ?_)); rintro e wg ⟨rfl, hbg⟩))
    all_goals
      go_wp2
      go_ret
      exact ⟨rfl, below_chain (below_chain B4.out.keep.drew hbf) hbg⟩
  · rw [szI_neg (by omega)] at CZ
    clear hin hb
    go_enter Try.func6, Try.ntmps6
    go_wp2_with fail
    refine (CZ.out _).mono ?_
    rintro e wa ⟨rfl, hba⟩
    go_wp2
    go_ret
    exact ⟨rfl, below_chain (below_a1 w _) hba⟩
end Go.Proofs.Ytfcomnpoehpgiaa
