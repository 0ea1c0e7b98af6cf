/- Runs in memory as arguments of the laws: marks in one, and the opening of one that came in. Condition: at most 2^20 numbers and bytes. -/
import Derived.Test.YtlhcobkncceodaaGreatDoorKRunLaw
namespace Go.Proofs.YtlhcobkncceodaaGreatDoor
open Go.RowKit
set_option linter.unusedVariables false

/-! ### marks -/
theorem ap_symm {a b : Option Nat} (h : a = none ∨ b ≠ a) : b = none ∨ a ≠ b := by
  rcases h with h | h
  · cases b with
    | none => exact .inl rfl
    | some x => exact .inr (by rw [h]; simp)
  · exact .inr (fun e => h e.symm)
/-- The blocks that a run's rows lie in. -/
def runBlk (A : Option Addr) (n c : Nat) (B : Option Addr) (m d : Nat) (C : Option Addr) (j k : Nat) (g : Nat) : Prop := (Value.slice A n c).ownBlock = some g ∨ (Value.slice B m d).ownBlock = some g ∨ (Value.slice C j k).ownBlock = some g
/-- What marking a run leaves. -/
def MarkedRun (w : World) (lo kk : Nat) (z : Int) (A : Option Addr) (n c : Nat) (B : Option Addr) (m d : Nat) (C : Option Addr) (j k : Nat) (e : Ending) (w' : World) : Prop :=
  e = .returned (.int .i64 z) ∧ (w'.ownsRow lo 3 1 (.slice A n c) n (vi (ints kk n)) ∧ w'.ownsRow lo 3 1 (.slice B m d) m (vi (ints (kk + n) m)) ∧ w'.ownsRow lo 5 1 (.slice C j k) j (vb (marksK (kk + n + m) j))) ∧ OnlyB (runBlk A n c B m d C j k) w w'
set_option maxHeartbeats 1000000 in
theorem markRun_any (p s it : Int) (dn : Bool) (nn : Int) (A : Option Addr) (n c : Nat) (B : Option Addr) (m d : Nat) (C : Option Addr) (j k lo kk : Nat) (vs ev : List Int) (nx : List Nat) (w : World)
    (hv : w.ownsRow lo 3 1 (.slice A n c) n (vi vs)) (he : w.ownsRow lo 3 1 (.slice B m d) m (vi ev)) (hx : w.ownsRow lo 5 1 (.slice C j k) j (vb nx)) (ha : (Value.slice A n c).ownBlock = none ∨ (Value.slice B m d).ownBlock ≠ (Value.slice A n c).ownBlock)
    (hn : n ≤ 1048576) (hm : m ≤ 1048576) (hj : j ≤ 1048576) (hk : kk ≤ 4194304) :
    Calls Tryz.prog 28 #[.agg #[.int .i64 p, .int .i64 s, .int .i64 it, .bool dn, .slice A n c, .slice B m d, .int .i64 nn, .slice C j k], .int .i64 (kk : Int)] w (MarkedRun w lo kk ((kk + n + m + j : Nat) : Int) A n c B m d C j k) := by
  have hT1 := own_types hv hx (by decide)
  have hT2 := own_types he hx (by decide)
  have B0 := Lib.hid (Blk.new w #[.int .i64 p, .int .i64 s, .int .i64 it, .bool dn, .slice A n c, .slice B m d, .int .i64 nn, .slice C j k] 32)
  have hwA : (Value.slice A n c).ownBlock ≠ some w.heap.size := fun e => by have := (hv.lt _ e).2; omega
  have hwB : (Value.slice B m d).ownBlock ≠ some w.heap.size := fun e => by have := (he.lt _ e).2; omega
  have hwC : (Value.slice C j k).ownBlock ≠ some w.heap.size := fun e => by have := (hx.lt _ e).2; omega
  have O0 : OnlyB (runBlk A n c B m d C j k) w (w.alloc (.cells #[.int .i64 p, .int .i64 s, .int .i64 it, .bool dn, .slice A n c, .slice B m d, .int .i64 nn, .slice C j k] 32)) := (OnlyB.refl _ w).below (below_a1 w _)
  have V0 := own_below hv (below_a1 w (.cells #[.int .i64 p, .int .i64 s, .int .i64 it, .bool dn, .slice A n c, .slice B m d, .int .i64 nn, .slice C j k] 32))
  have E0 := own_below he (below_a1 w (.cells #[.int .i64 p, .int .i64 s, .int .i64 it, .bool dn, .slice A n c, .slice B m d, .int .i64 nn, .slice C j k] 32))
  have X0 := own_below hx (below_a1 w (.cells #[.int .i64 p, .int .i64 s, .int .i64 it, .bool dn, .slice A n c, .slice B m d, .int .i64 nn, .slice C j k] 32))
  have C1 := Lib.hid (markInts_any A n c lo kk vs _ V0 (by omega) (by omega))
  have C2 := Lib.hid (fun W (h : W.ownsRow lo 3 1 (.slice B m d) m (vi ev)) => markInts_any B m d lo (kk + n) ev W h (by omega) (by omega))
  have C3 := Lib.hid (fun W (h : W.ownsRow lo 5 1 (.slice C j k) j (vb nx)) => markSet_any nn C j k lo (kk + n + m) nx W h (by omega) (by omega))
  unfold MarkedI at C1 C2
  unfold MarkedK at C3
  have V0 := Lib.hid V0
  have E0 := Lib.hid E0
  have X0 := Lib.hid X0
  have O0 := Lib.hid O0
  have HT1 := Lib.hid hT1
  have HT2 := Lib.hid hT2
  have HA := Lib.hid ha
  have HWA := Lib.hid hwA
  have HWB := Lib.hid hwB
  have HWC := Lib.hid hwC
  clear hv he hx ha hT1 hT2 hwA hwB hwC
  go_enter Tryz.func28, Tryz.ntmps28
  go_wp2_with fail
  refine C1.out.mono ?_
  rintro e w1 ⟨rfl, ho, hg⟩
  have B1 := Lib.hid (B0.out.grown hg HWA.out)
  have V1 := Lib.hid ho
  have E1 := Lib.hid (E0.out.kept hg (ap_symm HA.out |>.imp id fun h e => h e.symm))
  have X1 := Lib.hid (X0.out.kept hg (ap_symm HT1.out |>.imp id fun h e => h e.symm))
  have O1 := Lib.hid (O0.out.grown hg (fun i hi => .inl hi))
  clear ho hg
  have x5 := B1.out.cell (i := 5) rfl
  go_wp2_with fail
  refine (C2.out _ E1.out).mono ?_
  rintro e w2 ⟨rfl, ho, hg⟩
  have B2 := Lib.hid (B1.out.grown hg HWB.out)
  have E2 := Lib.hid ho
  have V2 := Lib.hid (V1.out.kept hg (HA.out.imp id fun h e => h e.symm))
  have X2 := Lib.hid (X1.out.kept hg (ap_symm HT2.out |>.imp id fun h e => h e.symm))
  have O2 := Lib.hid (O1.out.grown hg (fun i hi => .inr (.inl hi)))
  clear ho hg x5
  have x6 := B2.out.cell (i := 6) rfl
  have x7 := B2.out.cell (i := 7) rfl
  go_wp2_with fail
  refine (C3.out _ X2.out).mono ?_
  rintro e w3 ⟨rfl, ho, hg⟩
  have E3 := Lib.hid (E2.out.kept hg (HT2.out.imp id fun h e => h e.symm))
  have V3 := Lib.hid (V2.out.kept hg (HT1.out.imp id fun h e => h e.symm))
  have X3 := Lib.hid ho
  have O3 := Lib.hid (O2.out.grown hg (fun i hi => .inr (.inr hi)))
  clear ho hg
  go_wp2
  go_ret
  exact ⟨rfl, ⟨V3.out, E3.out, X3.out⟩, O3.out⟩
set_option maxHeartbeats 1000000 in
theorem heldRun_any (p s it : Int) (dn : Bool) (nn : Int) (A : Option Addr) (n c : Nat) (B : Option Addr) (m d : Nat) (C : Option Addr) (j k : Nat) (w : World)
    (hv : SlI w A n (ints 1 n)) (he : SlI w B m (ints (1 + n) m)) (hx : Rd w C j (marksK (1 + n + m) j)) (hn : n ≤ 1048576) (hm : m ≤ 1048576) (hj : j ≤ 1048576) :
    Calls Tryz.prog 39 #[.agg #[.int .i64 p, .int .i64 s, .int .i64 it, .bool dn, .slice A n c, .slice B m d, .int .i64 nn, .slice C j k], .int .i64 1] w (GNum w ((1 + n + m + j : Nat) : Int)) := by
  have C1 := Lib.hid (fun W (h : Below w.heap.size w W) => heldZ_any A n c 1 W (hv.below h) (by omega) (by omega))
  have C2 := Lib.hid (fun W (h : Below w.heap.size w W) => heldZ_any B m d (1 + n) W (he.below h) (by omega) (by omega))
  have C3 := Lib.hid (fun W (h : Below w.heap.size w W) => heldSet_any nn C j k (1 + n + m) W (hx.below h) (by omega) (by omega))
  have B0 := Lib.hid (Blk.new w #[.int .i64 p, .int .i64 s, .int .i64 it, .bool dn, .slice A n c, .slice B m d, .int .i64 nn, .slice C j k] 32)
  have H0 := Lib.hid (below_a1 w (.cells #[.int .i64 p, .int .i64 s, .int .i64 it, .bool dn, .slice A n c, .slice B m d, .int .i64 nn, .slice C j k] 32))
  have h1 : (0 : Int) ≤ ((1 + n : Nat) : Int) := by omega
  have h2 : (0 : Int) ≤ ((1 + n + m : Nat) : Int) := by omega
  have h3 : (0 : Int) ≤ ((1 + n + m + j : Nat) : Int) := by omega
  generalize ((1 + n + m + j : Nat) : Int) = z3 at C3 h3 ⊢
  generalize ((1 + n + m : Nat) : Int) = z2 at C2 C3 h2
  generalize ((1 + n : Nat) : Int) = z1 at C1 C2 h1
  clear hv he hx
  go_enter Tryz.func39, Tryz.ntmps39
  go_wp2_with fail
  refine (C1.out _ H0.out).mono ?_
  rintro e w1 ⟨rfl, hb⟩
  have B1 := Lib.hid (B0.out.below hb)
  have H1 := Lib.hid (g_chain H0.out hb)
  clear hb
  have x5 := B1.out.cell (i := 5) rfl
  go_wp2_with fail
  refine (C2.out _ H1.out).mono ?_
  rintro e w2 ⟨rfl, hb⟩
  have B2 := Lib.hid (B1.out.below hb)
  have H2 := Lib.hid (g_chain H1.out hb)
  clear hb x5
  have x6 := B2.out.cell (i := 6) rfl
  have x7 := B2.out.cell (i := 7) rfl
  go_wp2_with fail
  refine (C3.out _ H2.out).mono ?_
  rintro e w3 ⟨rfl, hb⟩
  have H3 := Lib.hid (g_chain H2.out hb)
  clear hb
  go_wp2
  go_ret
  exact ⟨rfl, H3.out⟩

/-! ### opening -/
def runSh : Sh := .pair jobSh (.pair (.int .i64) (.pair .bool (.pair (.sl (.int .i64)) (.pair (.sl (.int .i64)) frSh))))
/-- What a walk is told of a run that came in. -/
structure RunIn (w : World) (p s it : Int) (dn : Bool) (A : Option Addr) (n c : Nat) (B : Option Addr) (m d : Nat) (nn : Int) (C : Option Addr) (j k : Nat) (vs ev : List Int) (nx : List Nat) : Prop where
  hp : (Lit.int .i64 p).wf = true
  hs : (Lit.int .i64 s).wf = true
  hi : (Lit.int .i64 it).wf = true
  v : IntsIn w A n c vs
  e : IntsIn w B m d ev
  x : SetIn w nn C k nx
  j : nx.length = j
theorem RdR.job {lo hi : Nat} {w : World} {cs : List Value} {d : jobSh.D} (h : RdR lo hi w jobSh cs d) : ∃ a s : Int, cs = [.int .i64 a, .int .i64 s] ∧ (Lit.int .i64 a).wf = true ∧ (Lit.int .i64 s).wf = true := by
  obtain ⟨c1, c2, e, h1, ⟨hk, hwf⟩, hk2, hwf2⟩ := h
  exact ⟨d.1, d.2, by rw [e, hk, hk2]; rfl, hwf, hwf2⟩
section
variable {H : Type} {enc : TypeId × Value → H} {w : World} {base : Nat} {spare : Nat → Bool} {held : Bool}
theorem Tryz.cellsRun : Tryz.prog.cellsOf 50 = 8 := by kernel_rfl
set_option maxRecDepth 100000 in
theorem opensRun : Opens enc Tryz.prog w base spare held 50 runSh :=
  opens_struct Tryz.underlying50 Tryz.cellsRun (opensF_cons rfl Tryz.cellsJob opensJob (opensF_cons rfl Tryz.cellsVi (opens_int Tryz.underlying3) (opensF_cons rfl Tryz.cellsVb (opens_bool Tryz.underlying4) (opensF_cons rfl Tryz.cellsSI opensNums (opensF_cons rfl Tryz.cellsSI opensNums (opensF_last rfl Tryz.cellsSet opensSet))))))
set_option maxRecDepth 100000 in
theorem open_run {r : Reach} {b0 : Nat} {v : Value} {d : DataW H} {pp : List MemPlace} (hv : Value.okWide Tryz.prog w r b0 50 v) (h : DataW.Trod enc Tryz.prog w base spare held 50 v d pp) :
    ∃ (p s it : Int) (dn : Bool) (A : Option Addr) (n c : Nat) (B : Option Addr) (m d : Nat) (nn : Int) (C : Option Addr) (j k : Nat) (vs ev : List Int) (nx : List Nat), v = .agg #[.int .i64 p, .int .i64 s, .int .i64 it, .bool dn, .slice A n c, .slice B m d, .int .i64 nn, .slice C j k] ∧ RunIn w p s it dn A n c B m d nn C j k vs ev nx := by
  obtain ⟨cs, rfl, _⟩ := Go.WideShapes.okWide_struct Tryz.underlying50 hv
  obtain ⟨fuel, hf⟩ := h
  obtain ⟨x, hx⟩ := opensRun _ _ _ hf
  obtain ⟨c1, r1, e1, h1, hj, hx⟩ := hx
  obtain ⟨c2, r2, e2, h2, ⟨hk2, hw2⟩, hx⟩ := hx
  obtain ⟨c3, r3, e3, h3, hk3, hx⟩ := hx
  obtain ⟨c4, r4, e4, h4, hk4, hx⟩ := hx
  obtain ⟨c5, r5, e5, h5, hk5, hx⟩ := hx
  obtain ⟨a, s, ej, wa, ws⟩ := RdR.job hj
  obtain ⟨A, n, c, vs, ev4, hi4⟩ := RdR.nums hk4 (Nat.le_refl _)
  obtain ⟨B, m, d, evs, ev5, hi5⟩ := RdR.nums hk5 (Nat.le_refl _)
  obtain ⟨c6, c7, e6, h6, ⟨hk6, hw6⟩, hk7⟩ := hx
  obtain ⟨q, e7, hok, hl⟩ := hk7.daty (Nat.le_refl _)
  obtain ⟨C, j, k, nx⟩ := q
  have hk3' : c3 = [.bool x.2.2.1] := hk3
  have hjl := hok.rd.len
  simp only at hjl hl
  subst hjl
  refine ⟨a, s, x.2.1, x.2.2.1, A, n, c, B, m, d, x.2.2.2.2.2.1, C, nx.length, k, vs, evs, nx, ?_, ⟨wa, ws, hw2, hi4, hi5, ⟨hw6, hok.rd, hok.cap, hl⟩, rfl⟩⟩
  have h9 : (Value.agg cs).cells.toList = c1 ++ r1 := e1
  rw [e2, e3, e4, e5, e6, ej, hk2, hk3', ev4, ev5, hk6, e7] at h9
  have h8 : cs.toList = [.int .i64 a, .int .i64 s, .int .i64 x.2.1, .bool x.2.2.1, .slice A n c, .slice B m d, .int .i64 x.2.2.2.2.2.1, .slice C nx.length k] := by simpa [Value.cells] using h9
  cases cs
  simp only at h8
  rw [h8]
end
end Go.Proofs.YtlhcobkncceodaaGreatDoor
