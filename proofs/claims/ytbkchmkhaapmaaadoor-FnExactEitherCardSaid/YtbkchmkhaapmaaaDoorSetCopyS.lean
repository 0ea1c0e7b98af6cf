/- The contract of the model's function that copies a set. -/
import Derived.Test.YtbkchmkhaapmaaaDoorSetB
import Derived.Test.YtbkchmkhaapmaaaDoorPutMath
namespace Go.Proofs.YtbkchmkhaapmaaaDoor
open Go.RowKit
set_option linter.unusedVariables false

theorem set_ge {w : World} {lo e size n b : Nat} {v : Value} {xs : List Value} (h : w.ownsRow lo e size v n xs) (hb : b < lo) : v.ownBlock ≠ some b := fun e => by have := (h.lt b e).1; omega
set_option maxRecDepth 10000 in
set_option maxHeartbeats 8000000 in
theorem specCopySet (N : Int) (A : Option Addr) (n c : Nat) (xs : List Nat) (w : World) (hr : Rd w A n xs) (hn : n ≤ 2097152) :
    Calls Tryd.prog 57 #[.agg #[.int .i64 N, .slice A n c]] w (MadeS w N xs) := by
  obtain ⟨i0, hi, hz0, hz1, hz2⟩ := info_parts Tryd.infoByte
  have HL := Lib.hid hr.len
  have HR := Lib.hid hr
  clear hr
  have HB0 := Lib.hid (((SBx.new w N A n c).below (below_a1 _ (.cells #[.int .i64 0, .slice none 0 0] 24))).below (below_a1 _ (.cells #[] 5)))
  have HB1 := Lib.hid ((SBx.new1 w (.cells #[.int .i64 N, .slice A n c] 24) 0 none 0 0).below (below_a1 _ (.cells #[] 5)))
  have HOW := Lib.hid (built_none ((w.alloc (.cells #[.int .i64 N, .slice A n c] 24)).alloc (.cells #[.int .i64 0, .slice none 0 0] 24)))
  have HB3 := Lib.hid (below_a3 w (.cells #[.int .i64 N, .slice A n c] 24) (.cells #[.int .i64 0, .slice none 0 0] 24) (.cells #[] 5))
  have HRS := Lib.hid ((HR.out.below HB3.out).reads)
  go_enter Tryd.func57, Tryd.ntmps57
  go_wp2_with (at_builtin; refine wpList_append_any _ rfl (.tmp 3) (.tmp 5) 22 rfl (w.heap.size + 1 + 1) 5 i0 _ 1 1 Tryd.underlying22 hi hz0 hz1 hz2 rfl (by omega) (.slice (some ⟨w.heap.size + 1 + 1, 0, none⟩) 0 0) 0 [] rfl (by have h := HOW.out; simp only [World.size_alloc] at h; exact h) _ A n c (vb xs) rfl HRS.out (vb_oneCell xs) (by simp only [maxLen]; omega) (by omega) (by simp) ?_)
  intro v3 w3 hown3 hg3 _
  have X0 := Lib.hid (HB0.out.grown hg3 (by show some (w.heap.size + 1 + 1) ≠ some _; intro e; injection e with e; omega))
  have X1 := Lib.hid (HB1.out.grown hg3 (by show some (w.heap.size + 1 + 1) ≠ some _; intro e; injection e with e; omega))
  have HBW := Lib.hid (HB3.out.grown hg3 HB3.out.size (fun k hk => by have hk2 : some (w.heap.size + 1 + 1) = some k := hk; injection hk2 with hk2; omega))
  obtain ⟨A3, c3, rfl⟩ := own_form hown3
  have HO := Lib.hid hown3
  clear hown3 hg3 HB0 HB1 HOW HB3 HRS
  obtain ⟨l0, c00, c01, f00, f01⟩ := X0.out.parts
  obtain ⟨l1, c10, c11, f10, f11⟩ := X1.out.parts
  have e := HL.out
  subst e
  go_wp2
  refine bodyPost_ret (v := .agg #[.int .i64 N, .slice A3 xs.length c3]) (by simp [results, Tryd.results57, go_sem, c10, c11]) rfl ?_
  refine ⟨A3, c3, rfl, ?_, below_set2 (HBW.out.setCell (Nat.le_refl _) _) (by omega) _ _⟩
  exact own_monoG (own_set2 (own_lowG HO.out (p := ⟨w.heap.size, 1, none⟩) (by show w.heap.size < _; omega) _) (by omega) _ _) (by omega)
end Go.Proofs.YtbkchmkhaapmaaaDoor
