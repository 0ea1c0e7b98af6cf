/- The contract of the model's function that makes a disk for a law: a valid disk whose waiting operations append at most eight bytes each. -/
import Derived.Test.YtejibpajjoaldaaKDrawDisk
namespace Go.Proofs.Ytejibpajjoaldaa
open Go.RowKit Go.Maps

def DiskMade (w : World) (e : Ending) (w' : World) : Prop :=
  ∃ (r : DD) (A : Option Addr) (n c : Nat) (B : Option Addr) (m d : Nat) (es : List Ent) (os : List OpE), Nice r ∧ e = .returned (.agg #[.int .i64 r.room, .int .i64 r.fuse, .slice A n c, .slice B m d]) ∧ es.map Ent.file = r.fs ∧ os.map OpE.op = r.ops ∧ SlF w' A n es ∧ SlO w' B m os ∧ m ≤ d ∧ Below w.heap.size w w'

set_option maxRecDepth 10000 in
set_option maxHeartbeats 4000000 in
theorem makeDisk (A0 : Option Addr) (n0 c0 : Nat) (xs : List Nat) (w : World) (hr : Rd w A0 n0 xs) (hn : n0 ≤ 1048576) :
    Calls Try.prog 8 #[.slice A0 n0 c0] w (DiskMade w) := by
  have hb0 := below_a1 w (.cells #[.int .i64 0, .int .i64 0, .slice none 0 0, .slice none 0 0] 26)
  have C1 := Lib.hid (drawNew A0 n0 c0 xs _ (hr.below hb0) hn)
  have R0 := Lib.hid (Blk.new w #[.int .i64 0, .int .i64 0, .slice none 0 0, .slice none 0 0] 26)
  have B0 := Lib.hid hb0
  have HR := Lib.hid hr
  have hzs : (w.alloc (.cells #[.int .i64 0, .int .i64 0, .slice none 0 0, .slice none 0 0] 26)).heap.size = w.heap.size + 1 := by simp
  clear hr hb0
  go_enter Try.func8, Try.ntmps8
  go_wp2_with fail
  refine C1.out.mono ?_
  rintro e w1 ⟨rfl, hsz, hcur, hb1⟩
  rw [hzs] at hsz hcur ⊢
  have hA : 0 < n0 → ∀ b off sp, A0 = some ⟨b, off, sp⟩ → b < w1.heap.size := fun hn0 b off sp e => by
    obtain ⟨b', off', e', hb, _⟩ := HR.out.lies hn0
    rw [e'] at e
    injection e with e
    injection e with e1 e2 e3
    omega
  have C2 := Lib.hid (drawDisk (w.heap.size + 1) A0 n0 c0 xs w1 hcur hsz hA)
  have R1 := Lib.hid (R0.out.below hb1)
  have B1 := Lib.hid (B0.out.trans (hb1.mono (by rw [hzs]; omega)))
  clear C1 hcur hA hb1 B0 R0
  go_wp2_with fail
  refine C2.out.mono ?_
  rintro e w2 ⟨r, A, n, c, B, m, d, es, os, hnice, rfl, hf, ho, hsl, hso, hcap, hcu, hgr⟩
  have R2 := Lib.hid ((R1.out.grown hgr (fun e => by injection e; omega)).alloc (.cells #[.int .i64 r.room, .int .i64 r.fuse, .slice A n c, .slice B m d] 26))
  have D2 := Lib.hid (Blk.new w2 #[.int .i64 r.room, .int .i64 r.fuse, .slice A n c, .slice B m d] 26)
  have F2 := Lib.hid (hsl.below (below_a1 w2 (.cells #[.int .i64 r.room, .int .i64 r.fuse, .slice A n c, .slice B m d] 26)))
  have O2 := Lib.hid (hso.below (below_a1 w2 (.cells #[.int .i64 r.room, .int .i64 r.fuse, .slice A n c, .slice B m d] 26)))
  have B2 := Lib.hid ((B1.out.grown hgr B1.out.size (fun k hk => by injection hk; omega)).trans ((below_a1 w2 (.cells #[.int .i64 r.room, .int .i64 r.fuse, .slice A n c, .slice B m d] 26)).mono (Nat.le_trans B1.out.size hgr.size)))
  have HN := Lib.hid hnice
  have HF := Lib.hid hf
  have HO := Lib.hid ho
  have HCAP := Lib.hid hcap
  clear hgr hcu hsl hso hf ho hcap hnice C2 R1 B1
  have b0 := D2.out.cell (i := 0) rfl
  have b1 := D2.out.cell (i := 1) rfl
  have b2 := D2.out.cell (i := 2) rfl
  have b3 := D2.out.cell (i := 3) rfl
  have r0 := R2.out.cell (i := 0) rfl
  have r1 := R2.out.cell (i := 1) rfl
  have r2 := R2.out.cell (i := 2) rfl
  have r3 := R2.out.cell (i := 3) rfl
  have f0 := R2.out.frozen 0
  have f1 := R2.out.frozen 1
  have f2 := R2.out.frozen 2
  have f3 := R2.out.frozen 3
  have hR := R2.out.put4 (.int .i64 r.room) (.int .i64 r.fuse) (.slice A n c) (.slice B m d)
  have q0 := hR.cell (i := 0) rfl
  have q1 := hR.cell (i := 1) rfl
  have q2 := hR.cell (i := 2) rfl
  have q3 := hR.cell (i := 3) rfl
  clear hR
  go_wp2
  refine bodyPost_ret (v := .agg #[.int .i64 r.room, .int .i64 r.fuse, .slice A n c, .slice B m d]) (by simp [results, Try.results8, go_sem, q0, q1, q2, q3]) rfl ?_
  have hq := R2.out.quiet (quiet_int _) (quiet_int _) (quiet_sl _ _ _) (quiet_sl _ _ _)
  have hoff := OffG.set4 (w2.alloc (.cells #[.int .i64 r.room, .int .i64 r.fuse, .slice A n c, .slice B m d] 26)) w.heap.size (.int .i64 r.room) (.int .i64 r.fuse) (.slice A n c) (.slice B m d)
  exact ⟨r, A, n, c, B, m, d, es, os, HN.out, rfl, HF.out, HO.out, F2.out.offG hq hoff, O2.out.offG hq hoff, HCAP.out, below_out4 B2.out (Nat.le_refl _) _ _ _ _⟩
end Go.Proofs.Ytejibpajjoaldaa
