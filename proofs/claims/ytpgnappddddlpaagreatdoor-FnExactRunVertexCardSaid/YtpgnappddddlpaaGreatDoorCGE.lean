/- Runs in memory as arguments of the laws: marks in one, and the opening of one that came in. Condition: at most 2^20 numbers and bytes. // Runs as the laws' walks take them: the laws' helpers in plain words of rows and lengths; what stays where marks are left (conditions: at most 2^20 numbers and bytes). // What an update gives lies in the limits; an update done twice is done once (data only; no condition). // One vertex, one iteration: what stays valid; a vertex that is not to be updated is stable (data only; no condition). // A new run, an iteration, many iterations as data: what is valid stays valid; in two parts or at once; a finished run does not change (data only; no condition). // What RunIter and RunAll answer, as data, and what they leave in memory (plain lemmas; no condition). // What stands while a new run is made, and what it is, as data (plain lemmas; no condition). // How long the lists of a run that is answered are (plain lemmas; no condition). // What RunVertex answers, as data, and what it leaves in memory (plain lemmas; no condition). // The table of the weights as a row lists it: what the listed datum says of memory; it reads as before where nothing old is written. // Lists of numbers of a call's own: small words (plain lemmas over the model; no condition). // A block of two writable cells, what grows while one block is written, a new record that reads (plain lemmas over the model; no condition). // The views that a vertex of a run has, and where they stand, in memory: two lists of the call's own (plain lemmas over the model; no condition). // What stands while a vertex of a run is updated: the run in its block, its rows, the bits of the present set; all of it the call's own (plain lemmas over the model; no condition). // What stands while a run is iterated in place, and what an iteration writes (plain lemmas over the model; no condition). // What stands while the model updates a vertex of a run: the run's block and the present set's block of its own, whose bits are made anew (plain lemmas over the model; no condition). // What stands while the model iterates a run: a run in a block, the present set in a block, whose rows are made anew by each vertex (plain lemmas over the model; no condition). -/
import Derived.Test.YtpgnappddddlpaaGreatDoorKRunLaw
import Derived.Test.YtpgnappddddlpaaGreatDoorCGD
import Derived.Test.YtpgnappddddlpaaGreatDoorCGC
import Derived.Test.YtpgnappddddlpaaGreatDoorCGA
import Derived.Test.YtpgnappddddlpaaGreatDoorCGB
import Derived.Test.YtpgnappddddlpaaGreatDoorRows
import Derived.WalkKit
import Derived.ProofKit
import Derived.LaidMore
import Derived.Lay
import Derived.OpenShut
import Derived.ChangeVars
import Derived.Lib.LaidTab
namespace Go.Proofs.YtpgnappddddlpaaGreatDoor
open Go.RowKit
set_option linter.unusedVariables false

/-! ### marks -/
/-- The blocks that a run's rows lie in. -/
def runBlk (A : Option Addr) (n c : Nat) (B : Option Addr) (m d : Nat) (C : Option Addr) (j k : Nat) (g : Nat) : Prop := (Value.slice A n c).ownBlock = some g ∨ (Value.slice B m d).ownBlock = some g ∨ (Value.slice C j k).ownBlock = some g
/-- What marking a run leaves. -/
def MarkedRun (w : World) (lo kk : Nat) (z : Int) (A : Option Addr) (n c : Nat) (B : Option Addr) (m d : Nat) (C : Option Addr) (j k : Nat) (e : Ending) (w' : World) : Prop :=
  e = .returned (.int .i64 z) ∧ (w'.ownsRow lo 3 1 (.slice A n c) n (vi (ints kk n)) ∧ w'.ownsRow lo 3 1 (.slice B m d) m (vi (ints (kk + n) m)) ∧ w'.ownsRow lo 5 1 (.slice C j k) j (vb (marksK (kk + n + m) j))) ∧ OnlyB (runBlk A n c B m d C j k) w w'
set_option maxHeartbeats 1000000 in
theorem markRun_any (p s it : Int) (dn : Bool) (nn : Int) (A : Option Addr) (n c : Nat) (B : Option Addr) (m d : Nat) (C : Option Addr) (j k lo kk : Nat) (vs ev : List Int) (nx : List Nat) (w : World)
    (hv : w.ownsRow lo 3 1 (.slice A n c) n (vi vs)) (he : w.ownsRow lo 3 1 (.slice B m d) m (vi ev)) (hx : w.ownsRow lo 5 1 (.slice C j k) j (vb nx)) (ha : (Value.slice A n c).ownBlock = none ∨ (Value.slice B m d).ownBlock ≠ (Value.slice A n c).ownBlock)
    (hn : n ≤ 1048576) (hm : m ≤ 1048576) (hj : j ≤ 1048576) (hk : kk ≤ 4194304) :
    Calls Tryz.prog 16 #[.agg #[.int .i64 p, .int .i64 s, .int .i64 it, .bool dn, .slice A n c, .slice B m d, .int .i64 nn, .slice C j k], .int .i64 (kk : Int)] w (MarkedRun w lo kk ((kk + n + m + j : Nat) : Int) A n c B m d C j k) := by
  have hT1 := own_types hv hx (by decide)
  have hT2 := own_types he hx (by decide)
  have B0 := Lib.hid (Blk.new w #[.int .i64 p, .int .i64 s, .int .i64 it, .bool dn, .slice A n c, .slice B m d, .int .i64 nn, .slice C j k] 39)
  have hwA : (Value.slice A n c).ownBlock ≠ some w.heap.size := fun e => by have := (hv.lt _ e).2; omega
  have hwB : (Value.slice B m d).ownBlock ≠ some w.heap.size := fun e => by have := (he.lt _ e).2; omega
  have hwC : (Value.slice C j k).ownBlock ≠ some w.heap.size := fun e => by have := (hx.lt _ e).2; omega
  have O0 : OnlyB (runBlk A n c B m d C j k) w (w.alloc (.cells #[.int .i64 p, .int .i64 s, .int .i64 it, .bool dn, .slice A n c, .slice B m d, .int .i64 nn, .slice C j k] 39)) := (OnlyB.refl _ w).below (below_a1 w _)
  have V0 := own_below hv (below_a1 w (.cells #[.int .i64 p, .int .i64 s, .int .i64 it, .bool dn, .slice A n c, .slice B m d, .int .i64 nn, .slice C j k] 39))
  have E0 := own_below he (below_a1 w (.cells #[.int .i64 p, .int .i64 s, .int .i64 it, .bool dn, .slice A n c, .slice B m d, .int .i64 nn, .slice C j k] 39))
  have X0 := own_below hx (below_a1 w (.cells #[.int .i64 p, .int .i64 s, .int .i64 it, .bool dn, .slice A n c, .slice B m d, .int .i64 nn, .slice C j k] 39))
  have C1 := Lib.hid (markInts_any A n c lo kk vs _ V0 (by omega) (by omega))
  have C2 := Lib.hid (fun W (h : W.ownsRow lo 3 1 (.slice B m d) m (vi ev)) => markInts_any B m d lo (kk + n) ev W h (by omega) (by omega))
  have C3 := Lib.hid (fun W (h : W.ownsRow lo 5 1 (.slice C j k) j (vb nx)) => markSet_any nn C j k lo (kk + n + m) nx W h (by omega) (by omega))
  unfold MarkedI at C1 C2
  unfold MarkedK at C3
  have V0 := Lib.hid V0
  have E0 := Lib.hid E0
  have X0 := Lib.hid X0
  have O0 := Lib.hid O0
  have HT1 := Lib.hid hT1
  have HT2 := Lib.hid hT2
  have HA := Lib.hid ha
  have HWA := Lib.hid hwA
  have HWB := Lib.hid hwB
  have HWC := Lib.hid hwC
  clear hv he hx ha hT1 hT2 hwA hwB hwC
  go_enter Tryz.func16, Tryz.ntmps16
  go_wp2_with fail
  refine C1.out.mono ?_
  rintro e w1 ⟨rfl, ho, hg⟩
  have B1 := Lib.hid (B0.out.grown hg HWA.out)
  have V1 := Lib.hid ho
  have E1 := Lib.hid (E0.out.kept hg (ap_symm HA.out |>.imp id fun h e => h e.symm))
  have X1 := Lib.hid (X0.out.kept hg (ap_symm HT1.out |>.imp id fun h e => h e.symm))
  have O1 := Lib.hid (O0.out.grown hg (fun i hi => .inl hi))
  clear ho hg
  have x5 := B1.out.cell (i := 5) rfl
  go_wp2_with fail
  refine (C2.out _ E1.out).mono ?_
  rintro e w2 ⟨rfl, ho, hg⟩
  have B2 := Lib.hid (B1.out.grown hg HWB.out)
  have E2 := Lib.hid ho
  have V2 := Lib.hid (V1.out.kept hg (HA.out.imp id fun h e => h e.symm))
  have X2 := Lib.hid (X1.out.kept hg (ap_symm HT2.out |>.imp id fun h e => h e.symm))
  have O2 := Lib.hid (O1.out.grown hg (fun i hi => .inr (.inl hi)))
  clear ho hg x5
  have x6 := B2.out.cell (i := 6) rfl
  have x7 := B2.out.cell (i := 7) rfl
  go_wp2_with fail
  refine (C3.out _ X2.out).mono ?_
  rintro e w3 ⟨rfl, ho, hg⟩
  have E3 := Lib.hid (E2.out.kept hg (HT2.out.imp id fun h e => h e.symm))
  have V3 := Lib.hid (V2.out.kept hg (HT1.out.imp id fun h e => h e.symm))
  have X3 := Lib.hid ho
  have O3 := Lib.hid (O2.out.grown hg (fun i hi => .inr (.inr hi)))
  clear ho hg
  go_wp2
  go_ret
  exact ⟨rfl, ⟨V3.out, E3.out, X3.out⟩, O3.out⟩
set_option maxHeartbeats 1000000 in
theorem heldRun_any (p s it : Int) (dn : Bool) (nn : Int) (A : Option Addr) (n c : Nat) (B : Option Addr) (m d : Nat) (C : Option Addr) (j k : Nat) (w : World)
    (hv : SlI w A n (ints 1 n)) (he : SlI w B m (ints (1 + n) m)) (hx : Rd w C j (marksK (1 + n + m) j)) (hn : n ≤ 1048576) (hm : m ≤ 1048576) (hj : j ≤ 1048576) :
    Calls Tryz.prog 18 #[.agg #[.int .i64 p, .int .i64 s, .int .i64 it, .bool dn, .slice A n c, .slice B m d, .int .i64 nn, .slice C j k], .int .i64 1] w (GNum w ((1 + n + m + j : Nat) : Int)) := by
  have C1 := Lib.hid (fun W (h : Below w.heap.size w W) => heldZ_any A n c 1 W (hv.below h) (by omega) (by omega))
  have C2 := Lib.hid (fun W (h : Below w.heap.size w W) => heldZ_any B m d (1 + n) W (he.below h) (by omega) (by omega))
  have C3 := Lib.hid (fun W (h : Below w.heap.size w W) => heldSet_any nn C j k (1 + n + m) W (hx.below h) (by omega) (by omega))
  have B0 := Lib.hid (Blk.new w #[.int .i64 p, .int .i64 s, .int .i64 it, .bool dn, .slice A n c, .slice B m d, .int .i64 nn, .slice C j k] 39)
  have H0 := Lib.hid (below_a1 w (.cells #[.int .i64 p, .int .i64 s, .int .i64 it, .bool dn, .slice A n c, .slice B m d, .int .i64 nn, .slice C j k] 39))
  have h1 : (0 : Int) ≤ ((1 + n : Nat) : Int) := by omega
  have h2 : (0 : Int) ≤ ((1 + n + m : Nat) : Int) := by omega
  have h3 : (0 : Int) ≤ ((1 + n + m + j : Nat) : Int) := by omega
  generalize ((1 + n + m + j : Nat) : Int) = z3 at C3 h3 ⊢
  generalize ((1 + n + m : Nat) : Int) = z2 at C2 C3 h2
  generalize ((1 + n : Nat) : Int) = z1 at C1 C2 h1
  clear hv he hx
  go_enter Tryz.func18, Tryz.ntmps18
  go_wp2_with fail
  refine (C1.out _ H0.out).mono ?_
  rintro e w1 ⟨rfl, hb⟩
  have B1 := Lib.hid (B0.out.below hb)
  have H1 := Lib.hid (g_chain H0.out hb)
  clear hb
  have x5 := B1.out.cell (i := 5) rfl
  go_wp2_with fail
  refine (C2.out _ H1.out).mono ?_
  rintro e w2 ⟨rfl, hb⟩
  have B2 := Lib.hid (B1.out.below hb)
  have H2 := Lib.hid (g_chain H1.out hb)
  clear hb x5
  have x6 := B2.out.cell (i := 6) rfl
  have x7 := B2.out.cell (i := 7) rfl
  go_wp2_with fail
  refine (C3.out _ H2.out).mono ?_
  rintro e w3 ⟨rfl, hb⟩
  have H3 := Lib.hid (g_chain H2.out hb)
  clear hb
  go_wp2
  go_ret
  exact ⟨rfl, H3.out⟩

/-! ### opening -/
def runSh : Sh := .pair jobSh (.pair (.int .i64) (.pair .bool (.pair (.sl (.int .i64)) (.pair (.sl (.int .i64)) frSh))))
/-- What a walk is told of a run that came in. -/
structure RunIn (w : World) (p s it : Int) (dn : Bool) (A : Option Addr) (n c : Nat) (B : Option Addr) (m d : Nat) (nn : Int) (C : Option Addr) (j k : Nat) (vs ev : List Int) (nx : List Nat) : Prop where
  hp : (Lit.int .i64 p).wf = true
  hs : (Lit.int .i64 s).wf = true
  hi : (Lit.int .i64 it).wf = true
  v : IntsIn w A n c vs
  e : IntsIn w B m d ev
  x : SetIn w nn C k nx
  j : nx.length = j
theorem RdR.job {lo hi : Nat} {w : World} {cs : List Value} {d : jobSh.D} (h : RdR lo hi w jobSh cs d) : ∃ a s : Int, cs = [.int .i64 a, .int .i64 s] ∧ (Lit.int .i64 a).wf = true ∧ (Lit.int .i64 s).wf = true := by
  obtain ⟨c1, c2, e, h1, ⟨hk, hwf⟩, hk2, hwf2⟩ := h
  exact ⟨d.1, d.2, by rw [e, hk, hk2]; rfl, hwf, hwf2⟩
section
variable {H : Type} {enc : TypeId × Value → H} {w : World} {base : Nat} {spare : Nat → Bool} {held : Bool}
theorem Tryz.cellsRun : Tryz.prog.cellsOf 32 = 8 := by kernel_rfl
set_option maxRecDepth 100000 in
theorem opensRun : Opens enc Tryz.prog w base spare held 32 runSh :=
  opens_struct Tryz.underlying32 Tryz.cellsRun (opensF_cons rfl Tryz.cellsJob opensJob (opensF_cons rfl Tryz.cellsVi (opens_int Tryz.underlying3) (opensF_cons rfl Tryz.cellsVb (opens_bool Tryz.underlying4) (opensF_cons rfl Tryz.cellsSI opensNums (opensF_cons rfl Tryz.cellsSI opensNums (opensF_last rfl Tryz.cellsSet opensSet))))))
set_option maxRecDepth 100000 in
theorem open_run {r : Reach} {b0 : Nat} {v : Value} {d : DataW H} {pp : List MemPlace} (hv : Value.okWide Tryz.prog w r b0 32 v) (h : DataW.Trod enc Tryz.prog w base spare held 32 v d pp) :
    ∃ (p s it : Int) (dn : Bool) (A : Option Addr) (n c : Nat) (B : Option Addr) (m d : Nat) (nn : Int) (C : Option Addr) (j k : Nat) (vs ev : List Int) (nx : List Nat), v = .agg #[.int .i64 p, .int .i64 s, .int .i64 it, .bool dn, .slice A n c, .slice B m d, .int .i64 nn, .slice C j k] ∧ RunIn w p s it dn A n c B m d nn C j k vs ev nx := by
  obtain ⟨cs, rfl, _⟩ := Go.WideShapes.okWide_struct Tryz.underlying32 hv
  obtain ⟨fuel, hf⟩ := h
  obtain ⟨x, hx⟩ := opensRun _ _ _ hf
  obtain ⟨c1, r1, e1, h1, hj, hx⟩ := hx
  obtain ⟨c2, r2, e2, h2, ⟨hk2, hw2⟩, hx⟩ := hx
  obtain ⟨c3, r3, e3, h3, hk3, hx⟩ := hx
  obtain ⟨c4, r4, e4, h4, hk4, hx⟩ := hx
  obtain ⟨c5, r5, e5, h5, hk5, hx⟩ := hx
  obtain ⟨a, s, ej, wa, ws⟩ := RdR.job hj
  obtain ⟨A, n, c, vs, ev4, hi4⟩ := RdR.nums hk4 (Nat.le_refl _)
  obtain ⟨B, m, d, evs, ev5, hi5⟩ := RdR.nums hk5 (Nat.le_refl _)
  obtain ⟨c6, c7, e6, h6, ⟨hk6, hw6⟩, hk7⟩ := hx
  obtain ⟨q, e7, hok, hl⟩ := hk7.daty (Nat.le_refl _)
  obtain ⟨C, j, k, nx⟩ := q
  have hk3' : c3 = [.bool x.2.2.1] := hk3
  have hjl := hok.rd.len
  simp only at hjl hl
  subst hjl
  refine ⟨a, s, x.2.1, x.2.2.1, A, n, c, B, m, d, x.2.2.2.2.2.1, C, nx.length, k, vs, evs, nx, ?_, ⟨wa, ws, hw2, hi4, hi5, ⟨hw6, hok.rd, hok.cap, hl⟩, rfl⟩⟩
  have h9 : (Value.agg cs).cells.toList = c1 ++ r1 := e1
  rw [e2, e3, e4, e5, e6, ej, hk2, hk3', ev4, ev5, hk6, e7] at h9
  have h8 : cs.toList = [.int .i64 a, .int .i64 s, .int .i64 x.2.1, .bool x.2.2.1, .slice A n c, .slice B m d, .int .i64 x.2.2.2.2.2.1, .slice C nx.length k] := by simpa [Value.cells] using h9
  cases cs
  simp only at h8
  rw [h8]
end
end Go.Proofs.YtpgnappddddlpaaGreatDoor
namespace Go.Proofs.YtpgnappddddlpaaGreatDoor
open Go.RowKit
set_option linter.unusedVariables false

section
variable (p s it : Int) (dn : Bool) (A : Option Addr) (n c : Nat) (B : Option Addr) (m d : Nat) (nn : Int) (C : Option Addr) (j k : Nat) (vs ev : List Int) (nx : List Nat) (w : World)
theorem szRun_is (hv : vs.length = n) (he : ev.length = m) (hx : nx.length = j) (left : Int) (h1 : n ≤ maxLen) (h2 : m ≤ maxLen) (h3 : j ≤ maxLen) (h0 : 0 ≤ left) (hl : left ≤ 1048576) :
    Calls Tryz.prog 5 #[.agg #[.int .i64 p, .int .i64 s, .int .i64 it, .bool dn, .slice A n c, .slice B m d, .int .i64 nn, .slice C j k], .int .i64 left] w (GNum w (leftG left (n + m + j))) := by
  subst hv he hx
  exact szRun_any ⟨p, s, it, dn, vs, ev, nn, nx⟩ A c B d C k left w h1 h2 h3 h0 hl
theorem toRun_is (hv : SlI w A n vs) (he : SlI w B m ev) (hx : Rd w C j nx) (hk : j ≤ k) (h1 : n ≤ 2097152) (h2 : m ≤ 2097152) (h3 : j ≤ 2097152) :
    Calls Tryz.prog 9 #[.agg #[.int .i64 p, .int .i64 s, .int .i64 it, .bool dn, .slice A n c, .slice B m d, .int .i64 nn, .slice C j k]] w (MadeR w p s it dn n m nn j vs ev nx) := by
  obtain rfl := hv.len
  obtain rfl := he.len
  obtain rfl := hx.len
  refine (toRun_any ⟨p, s, it, dn, vs, ev, nn, nx⟩ A c B d C k w ⟨hv, he, hx⟩ hk h1 h2 h3).mono ?_
  rintro e w' ⟨A1, c1, B1, d1, C1, k1, rfl, ho, hb⟩
  exact ⟨A1, c1, B1, d1, C1, k1, rfl, ⟨ho.v, ho.e, ho.x, ho.ap⟩, hb⟩
theorem eqRun_is (A' : Option Addr) (c' : Nat) (B' : Option Addr) (d' : Nat) (C' : Option Addr) (k' : Nat) (hv : SlI w A n vs) (he : SlI w B m ev) (hx : Rd w C j nx) (hv' : SlI w A' n vs) (he' : SlI w B' m ev) (hx' : Rd w C' j nx) (hk : j ≤ k) (hk' : j ≤ k') (h1 : n ≤ 2097152) (h2 : m ≤ 2097152) (h3 : j ≤ 2097152) :
    Calls Tryz.prog 12 #[.agg #[.int .i64 p, .int .i64 s, .int .i64 it, .bool dn, .slice A n c, .slice B m d, .int .i64 nn, .slice C j k], .agg #[.int .i64 p, .int .i64 s, .int .i64 it, .bool dn, .slice A' n c', .slice B' m d', .int .i64 nn, .slice C' j k']] w (GTell w true) := by
  obtain rfl := hv.len
  obtain rfl := he.len
  obtain rfl := hx.len
  exact eqRun_any ⟨p, s, it, dn, vs, ev, nn, nx⟩ A c B d C k A' c' B' d' C' k' w ⟨hv, he, hx⟩ ⟨hv', he', hx'⟩ hk hk' h1 h2 h3
end
/-- Where the rows of a run lie. -/
def RunAt (A : Option Addr) (n c : Nat) (B : Option Addr) (m d : Nat) (C : Option Addr) (j k l h : Nat) : Prop := ∀ g, runBlk A n c B m d C j k g → l ≤ g ∧ g < h
theorem Rows3.at_ {w : World} {lo n c m d j k : Nat} {A B C : Option Addr} {vs ev : List Int} {nx : List Nat} (h : Rows3 w lo A n c B m d C j k vs ev nx) : RunAt A n c B m d C j k lo w.heap.size := by
  rintro g (hg | hg | hg)
  · exact h.v.lt g hg
  · exact h.e.lt g hg
  · exact h.x.lt g hg
theorem Wr.rows {w w' : World} {l h l1 h1 lo n c m d j k : Nat} {A B C : Option Addr} {vs ev : List Int} {nx : List Nat} (hw : Wr l h w w') (hr : Rows3 w lo A n c B m d C j k vs ev nx) (ha : RunAt A n c B m d C j k l1 h1) (hd : h1 ≤ l ∨ h ≤ l1) : Rows3 w' lo A n c B m d C j k vs ev nx :=
  ⟨hw.own hr.v (fun g hg => ha g (.inl hg)) hd, hw.own hr.e (fun g hg => ha g (.inr (.inl hg))) hd, hw.own hr.x (fun g hg => ha g (.inr (.inr hg))) hd, hr.ap⟩
theorem Rows3.cap {w : World} {lo n c m d j k : Nat} {A B C : Option Addr} {vs ev : List Int} {nx : List Nat} (h : Rows3 w lo A n c B m d C j k vs ev nx) : j ≤ k := by
  rcases h.x.2 with ⟨h, h0⟩ | ⟨g, cap, cur, h, _, _, h1, _⟩
  · injection h with _ e1 _
    omega
  · injection h with _ _ e3
    omega
end Go.Proofs.YtpgnappddddlpaaGreatDoor
namespace Go.Proofs.YtpgnappddddlpaaGreatDoor

theorem newVal_in {p x : Int} {es : List VE} (hx : 0 ≤ x ∧ x ≤ 1099511627776) (h : ∀ e ∈ es, e.ok = true) : 0 ≤ newVal p x es ∧ newVal p x es ≤ 1099511627776 := by
  unfold newVal
  split
  · exact addC_lim _ _
  split
  · unfold minAll
    suffices H : ∀ (l : List VE) (y : Int), (∀ e ∈ l, e.ok = true) → 0 ≤ y ∧ y ≤ 1099511627776 → 0 ≤ l.foldl (fun x e => min x e.v) y ∧ l.foldl (fun x e => min x e.v) y ≤ 1099511627776 from H es x h hx
    intro l
    induction l with
    | nil => intro y _ hy; exact hy
    | cons e l ih =>
      intro y hl hy
      rw [List.foldl_cons]
      have h1 := VE.ok_lim (hl e List.mem_cons_self)
      exact ih _ (fun a ha => hl a (List.mem_cons_of_mem _ ha)) (by omega)
  split
  · unfold minPath
    suffices H : ∀ (l : List VE) (y : Int), 0 ≤ y ∧ y ≤ 1099511627776 → 0 ≤ l.foldl pathStep y ∧ l.foldl pathStep y ≤ 1099511627776 from H es x hx
    intro l
    induction l with
    | nil => intro y hy; exact hy
    | cons e l ih =>
      intro y hy
      rw [List.foldl_cons]
      refine ih _ ?_
      unfold pathStep
      have h1 := addC_lim e.v e.w
      split
      · omega
      · exact hy
  · exact mostR_lim (told_lim h) hx
theorem newEdge_in {p x : Int} {n : Nat} {e : VE} (hx : 0 ≤ x ∧ x ≤ 1099511627776) (he : e.ok = true) : 0 ≤ newEdge p x n e ∧ newEdge p x n e ≤ 1099511627776 := by
  have h := VE.ok_lim he
  unfold newEdge
  split
  · split
    · rw [Int.tdiv_eq_ediv_of_nonneg hx.1]
      have h1 := Int.ediv_nonneg (a := x) (b := (n : Int)) hx.1 (by omega)
      have h2 := Int.ediv_le_self (a := x) (n : Int) hx.1
      omega
    · omega
  split
  · omega
  split
  · split
    · exact hx
    · omega
  · exact capF_lim _
/-- A view that bears the edge's new value. -/
def VE.put (e : VE) (p x : Int) (n : Nat) : VE := ⟨e.i, e.o, e.w, newEdge p x n e⟩
end Go.Proofs.YtpgnappddddlpaaGreatDoor
namespace Go.Proofs.YtpgnappddddlpaaGreatDoor
open Go.RowKit

def Lab (p : Int) (S : ID) : Prop := p = 4 → (∀ x ∈ S.vs, 0 ≤ x ∧ x < 1000) ∧ ∀ x ∈ S.ev, 0 ≤ x ∧ x < 1000000
section
variable {p : Int} {N : Nat} {G : List GE} {S : ID}
theorem vstep_is (hG : graphB (N : Int) G = true) (h : Good p N G S) (v : Nat) : Stepped p N G v (edgeNew p G S v) (idxT G v G.length) ⟨S.vs.set v (newAt p G S v), S.ev, S.nx, S.nw⟩ (vstep p N G S v) :=
  fold_step hG v _ _ _ (idx_nodup _ _ _) (fun i hi => by have := (idx_mem.1 hi).1; exact ⟨by simp only; rw [h.el]; exact this, this⟩) h.nx h.nw
theorem newAt_lim (hG : graphB (N : Int) G = true) (h : Good p N G S) {v : Nat} (hv : v < N) : 0 ≤ newAt p G S v ∧ newAt p G S v ≤ 1099511627776 :=
  newVal_in (getD_in h.vv (i := v) (by rw [h.vl]; exact hv)) (views_ok hG h v)
theorem ev_all {l : List Int} {P : Int → Prop} (h : ∀ i, i < l.length → P (l.getD i 0)) : ∀ x ∈ l, P x := fun x hx => by
  obtain ⟨i, hi, rfl⟩ := List.getElem_of_mem hx
  have := h i hi
  rwa [List.getD_eq_getElem?_getD, List.getElem?_eq_getElem hi] at this
theorem vstep_good (hG : graphB (N : Int) G = true) (h : Good p N G S) {v : Nat} (hv : v < N) : Good p N G (vstep p N G S v) := by
  have T := vstep_is hG h v
  have hn := newAt_lim hG h hv
  refine ⟨by rw [T.vs]; simp [h.vl], by rw [T.el]; exact h.el, by rw [T.vs]; exact set_all h.vv v hn, ev_all (fun i hi => ?_), T.nx, T.nw, T.nxs h.nxs, T.nws h.nws⟩
  rw [T.ev i]
  split
  · rename_i hi2
    exact newEdge_in hn (view_ok hG h hi2)
  · exact getD_in h.ee (by rw [T.el] at hi; exact hi)
/-! ### an iteration -/
end
end Go.Proofs.YtpgnappddddlpaaGreatDoor
namespace Go.Proofs.YtpgnappddddlpaaGreatDoor
open Go.RowKit

/-! ### first values -/
/-! ### sets of vertices -/
/-! ### a run -/
structure RunP (N : Nat) (G : List GE) (r : RD) : Prop where
  g : graphB (N : Int) G = true
  j : jobB (N : Int) r.p r.s = true
  i : 0 ≤ r.it ∧ r.it ≤ 1000
  vl : r.vs.length = N
  el : r.ev.length = G.length
  vv : ∀ x ∈ r.vs, 0 ≤ x ∧ x ≤ 1099511627776
  ee : ∀ x ∈ r.ev, 0 ≤ x ∧ x ≤ 1099511627776
  nx : setB (N : Int) r.nx = true
  nn : r.nn = (N : Int)
  dn : r.dn = decide ((memsB (N : Int) r.nx).length = 0)
theorem vals_iff {l : List Int} : valsB l = true ↔ ∀ x ∈ l, 0 ≤ x ∧ x ≤ 1099511627776 := by
  unfold valsB valB
  rw [List.all_eq_true]
  constructor
  · intro h x hx; simpa using h x hx
  · intro h x hx; simpa using h x hx
theorem runB_iff {N : Nat} {G : List GE} {r : RD} : runB (N : Int) G r = true ↔ RunP N G r := by
  unfold runB
  simp only [Bool.and_eq_true, decide_eq_true_eq, beq_iff_eq, vals_iff]
  constructor
  · rintro ⟨h1, h2, h3, ⟨h4, h5⟩, h6, h7, h8, h9, h10⟩
    rw [h9] at h8 h10
    exact ⟨h1, h2, h3, by omega, h5, h6, h7, h8, h9, h10⟩
  · rintro ⟨h1, h2, h3, h4, h5, h6, h7, h8, h9, h10⟩
    rw [h9]
    exact ⟨h1, h2, h3, ⟨by omega, h5⟩, h6, h7, h8, rfl, h10⟩
theorem RunP.prog {N : Nat} {G : List GE} {r : RD} (h : RunP N G r) : 1 ≤ r.p ∧ r.p ≤ 4 := by
  have h1 := h.j
  unfold jobB progB at h1
  simp only [Bool.and_eq_true, decide_eq_true_eq] at h1
  exact h1.1
/-- The bytes of the set are bytes. -/
def SmallR (r : RD) : Prop := ∀ x ∈ r.nx, x < 256
section
variable {N : Nat} {G : List GE} {r : RD}
end
end Go.Proofs.YtpgnappddddlpaaGreatDoor
namespace Go.Proofs.YtpgnappddddlpaaGreatDoor
open Go.RowKit
set_option linter.unusedVariables false

def noRun : RD := ⟨0, 0, 0, false, [], [], 0, []⟩
/-- A new run, and a truth value. -/
def MadeRB (w : World) (r : RD) (b : Bool) (e : Ending) (w' : World) : Prop :=
  ∃ A c B d C k, e = .returned (.tuple #[.agg #[.int .i64 r.p, .int .i64 r.s, .int .i64 r.it, .bool r.dn, .slice A r.vs.length c, .slice B r.ev.length d, .int .i64 r.nn, .slice C r.nx.length k], .bool b]) ∧ Rows3 w' w.heap.size A r.vs.length c B r.ev.length d C r.nx.length k r.vs r.ev r.nx ∧ Below w.heap.size w w'
theorem nil_rows (w : World) (lo : Nat) : Rows3 w lo none 0 0 none 0 0 none 0 0 [] [] [] := ⟨World.ownsRow_nil _ _ _ _, World.ownsRow_nil _ _ _ _, ⟨rfl, .inl ⟨rfl, rfl⟩⟩, .inl rfl⟩
theorem MadeRB.no {w w' : World} (h : Below w.heap.size w w') : MadeRB w noRun false (.returned (.tuple #[.agg #[.int .i64 0, .int .i64 0, .int .i64 0, .bool false, .slice none 0 0, .slice none 0 0, .int .i64 0, .slice none 0 0], .bool false])) w' := ⟨none, 0, none, 0, none, 0, rfl, nil_rows _ _, h⟩
/-- A new run. -/
def MadeRO (w : World) (r : RD) (e : Ending) (w' : World) : Prop :=
  ∃ A c B d C k, e = .returned (.agg #[.int .i64 r.p, .int .i64 r.s, .int .i64 r.it, .bool r.dn, .slice A r.vs.length c, .slice B r.ev.length d, .int .i64 r.nn, .slice C r.nx.length k]) ∧ Rows3 w' w.heap.size A r.vs.length c B r.ev.length d C r.nx.length k r.vs r.ev r.nx ∧ Below w.heap.size w w'
theorem MadeRO.no {w w' : World} (h : Below w.heap.size w w') : MadeRO w noRun (.returned (.agg #[.int .i64 0, .int .i64 0, .int .i64 0, .bool false, .slice none 0 0, .slice none 0 0, .int .i64 0, .slice none 0 0])) w' := ⟨none, 0, none, 0, none, 0, rfl, nil_rows _ _, h⟩
/-! ### as often as asked -/
end Go.Proofs.YtpgnappddddlpaaGreatDoor
namespace Go.Proofs.YtpgnappddddlpaaGreatDoor
open Go.RowKit
set_option linter.unusedVariables false

end Go.Proofs.YtpgnappddddlpaaGreatDoor
namespace Go.Proofs.YtpgnappddddlpaaGreatDoor
open Go.RowKit

def LimR (r : RD) : Prop := SmallR r ∧ r.vs.length ≤ 1048576 ∧ r.ev.length ≤ 1048576 ∧ r.nx.length ≤ 1048576
theorem lim_no : LimR noRun := ⟨fun x hx => (by cases hx), Nat.zero_le _, Nat.zero_le _, Nat.zero_le _⟩
theorem runB_nat {N : Int} {G : List GE} {r : RD} (h : runB N G r = true) : ∃ q : Nat, N = (q : Int) := ⟨N.toNat, by
  unfold runB at h
  simp only [Bool.and_eq_true] at h
  have := graphB_iff h.1
  omega⟩
end Go.Proofs.YtpgnappddddlpaaGreatDoor
namespace Go.Proofs.YtpgnappddddlpaaGreatDoor
open Go.RowKit
set_option linter.unusedVariables false

def vertB (N : Int) (G : List GE) (r : RD) (M : Int) (nw : List Nat) (v : Int) : Bool := runB N G r && (decide (0 ≤ v ∧ v < N) && (setB M nw && decide (M = N)))
def vertT (N : Int) (G : List GE) (r : RD) (nw : List Nat) (v : Int) : ID := vstep r.p N G ⟨r.vs, r.ev, r.nx, nw⟩ v.toNat
def vertR (N : Int) (G : List GE) (r : RD) (M : Int) (nw : List Nat) (v : Int) : RD := if vertB N G r M nw v then ⟨r.p, r.s, r.it, r.dn, (vertT N G r nw v).vs, (vertT N G r nw v).ev, r.nn, (vertT N G r nw v).nx⟩ else noRun
def vertN (N : Int) (G : List GE) (r : RD) (M : Int) (nw : List Nat) (v : Int) : Int := if vertB N G r M nw v then M else 0
def vertX (N : Int) (G : List GE) (r : RD) (M : Int) (nw : List Nat) (v : Int) : List Nat := if vertB N G r M nw v then (vertT N G r nw v).nw else []
/-- A new run and a new set. -/
def MadeRV (w : World) (r : RD) (M : Int) (xs : List Nat) (e : Ending) (w' : World) : Prop :=
  ∃ A c B d C k D q, e = .returned (.tuple #[.agg #[.int .i64 r.p, .int .i64 r.s, .int .i64 r.it, .bool r.dn, .slice A r.vs.length c, .slice B r.ev.length d, .int .i64 r.nn, .slice C r.nx.length k], .agg #[.int .i64 M, .slice D xs.length q]]) ∧ Rows3 w' w.heap.size A r.vs.length c B r.ev.length d C r.nx.length k r.vs r.ev r.nx ∧ w'.ownsRow w.heap.size 5 1 (.slice D xs.length q) xs.length (vb xs) ∧ ((Value.slice C r.nx.length k).ownBlock = none ∨ (Value.slice D xs.length q).ownBlock ≠ (Value.slice C r.nx.length k).ownBlock) ∧ Below w.heap.size w w'
theorem MadeRV.no {w w' : World} (h : Below w.heap.size w w') : MadeRV w noRun 0 [] (.returned (.tuple #[.agg #[.int .i64 0, .int .i64 0, .int .i64 0, .bool false, .slice none 0 0, .slice none 0 0, .int .i64 0, .slice none 0 0], .agg #[.int .i64 0, .slice none 0 0]])) w' :=
  ⟨none, 0, none, 0, none, 0, none, 0, rfl, nil_rows _ _, ⟨rfl, .inl ⟨rfl, rfl⟩⟩, .inl rfl, h⟩
theorem Rows3.past2 {w w' : World} {lo g n c m d j k : Nat} {A B C : Option Addr} {vs ev : List Int} {nx : List Nat} {cs : Array Value} {t : TypeId} (h : Rows3 w lo A n c B m d C j k vs ev nx) (hg : w.grownBy w' (some g)) (hb : Blk w g cs t) (hi : 3 ≠ t) (hu : 5 ≠ t) : Rows3 w' lo A n c B m d C j k vs ev nx :=
  ⟨own_kept h.v hg (own_kind h.v hb hi), own_kept h.e hg (own_kind h.e hb hi), own_kept h.x hg (own_kind h.x hb hu), h.ap⟩
theorem vert_good {N : Nat} {G : List GE} {r : RD} {nw : List Nat} (h : RunP N G r) (hs : SmallR r) (hn : setB (N : Int) nw = true) (hw : ∀ x ∈ nw, x < 256) : Good r.p N G ⟨r.vs, r.ev, r.nx, nw⟩ :=
  ⟨h.vl, h.el, h.vv, h.ee, h.nx, hn, hs, hw⟩
theorem lim_vert (N : Int) (G : List GE) (r : RD) (M : Int) (nw : List Nat) (v : Int) (hs : SmallR r) (hw : ∀ x ∈ nw, x < 256) : LimR (vertR N G r M nw v) ∧ (∀ x ∈ vertX N G r M nw v, x < 256) ∧ (vertX N G r M nw v).length ≤ 1048576 := by
  unfold vertR vertX
  cases h : vertB N G r M nw v with
  | false => simp only [Bool.false_eq_true, if_false]; exact ⟨lim_no, fun x hx => (by cases hx), Nat.zero_le _⟩
  | true =>
    simp only [if_true]
    unfold vertB at h
    simp only [Bool.and_eq_true, decide_eq_true_eq] at h
    obtain ⟨h1, ⟨h2, h2'⟩, h3, rfl⟩ := h
    obtain ⟨q, rfl⟩ := runB_nat h1
    have hr := runB_iff.1 h1
    have hg := vstep_good hr.g (vert_good hr hs h3 hw) (v := v.toNat) (by omega)
    have h4 := hg.vl
    have h5 := hg.el
    have h6 := (setB_dim hg.nx).2.2
    have h7 := (setB_dim hg.nw).2.2
    have h8 := graphB_iff hr.g
    simp only [Int.toNat_natCast] at h6 h7
    unfold bytesN at h6 h7
    unfold vertT
    exact ⟨⟨hg.nxs, by simp only; omega, by simp only; omega, by simp only; omega⟩, hg.nws, by omega⟩
end Go.Proofs.YtpgnappddddlpaaGreatDoor
namespace Go.Proofs.YtpgnappddddlpaaGreatDoor
open Go.ChangeShapes Go.WideShapes Go.ChangeAt Go.RowKit
set_option linter.unusedVariables false

def wtZ : List Int := [1, 2, 4, 8, 16, 32, 64, 128]
def wtV : Array Value := #[.int .u8 1, .int .u8 2, .int .u8 4, .int .u8 8, .int .u8 16, .int .u8 32, .int .u8 64, .int .u8 128]
theorem weights_data : [("loop.example/g00671/impl.weights", (Rows.laid_loop_example_g00671_impl_weights : DataW Unit))] = [("loop.example/g00671/impl.weights", (Lib.tabData .u8 wtZ : DataW Unit))] := by kernel_rfl
theorem weights_name : Tryz.prog.globalNamed "loop.example/g00671/impl.weights" = some 0 := by kernel_rfl
theorem weights_type : (Tryz.prog.globals[0]?).map (·.type) = some 114 := by kernel_rfl
theorem weights_var {W : World} (h : laidMet Tryz.prog [("loop.example/g00671/impl.weights", (Lib.tabData .u8 wtZ : DataW Unit))] W) : W.var? Tryz.prog "loop.example/g00671/impl.weights" = some wtV :=
  Lib.tabIs_of_head (g := 0) (t := 114) (e := 5) (n := 8) weights_name weights_type Tryz.underlying114 Tryz.underlying5 (by kernel_rfl) (by kernel_rfl) h
/-- How it reads, whatever the memory. -/
abbrev wtH {H : Type} : DataW H := Rows.laid_loop_example_g00671_impl_weights
theorem weights_reads {H : Type} (enc : TypeId × Value → H) (W : World) (sp : Nat → Bool) : DataW.trod enc Tryz.prog W 0 sp true 3 114 wtV.toList = some (wtH, []) := by kernel_rfl
theorem weights_trod {H : Type} (enc : TypeId × Value → H) {W : World} (h : W.var? Tryz.prog "loop.example/g00671/impl.weights" = some wtV) (sp : Nat → Bool) :
    DataW.TrodVars enc Tryz.prog W sp ["loop.example/g00671/impl.weights"] [wtH] (MemPlace.row ⟨0, 0, none⟩ wtV.size ++ []) :=
  trodVars_mk1 weights_name weights_type h (weights_reads enc W sp)
theorem weights_met {W : World} (h : W.var? Tryz.prog "loop.example/g00671/impl.weights" = some wtV) : Wts W := by
  have hc : ∀ i, i < 8 → W.cell? ⟨0, i, none⟩ = some (.int .u8 ((2 ^ i : Nat) : Int)) := by
    intro i hi
    have h0 := World.var?_cell weights_name h i
    rw [h0]
    have : i = 0 ∨ i = 1 ∨ i = 2 ∨ i = 3 ∨ i = 4 ∨ i = 5 ∨ i = 6 ∨ i = 7 := by omega
    rcases this with rfl | rfl | rfl | rfl | rfl | rfl | rfl | rfl <;> rfl
  exact ⟨World.block_lt_of_cell? W _ (hc 0 (by omega)), hc⟩
theorem weights_below {W W' : World} (h : W.var? Tryz.prog "loop.example/g00671/impl.weights" = some wtV) (hb : Below W.heap.size W W') : W'.var? Tryz.prog "loop.example/g00671/impl.weights" = some wtV := by
  have hl := (weights_met h).lt
  unfold World.var? at h ⊢
  rw [weights_name, Option.bind_some] at h ⊢
  rw [hb.block _ hl]
  exact h
end Go.Proofs.YtpgnappddddlpaaGreatDoor
namespace Go.Proofs.YtpgnappddddlpaaGreatDoor
open Go.RowKit

theorem lab_reads (w : World) (u : Value) (t : TypeId) (g : Nat) (hg : g = w.heap.size) : Reads (w.alloc (.cells #[u] t)) (g + 1) 1 (some ⟨g, 0, none⟩) 1 [u] := by
  subst hg
  refine ⟨rfl, fun _ => ⟨_, rfl, by simp, fun j x hj => ?_⟩⟩
  match j, hj with
  | 0, hj => simp at hj; subst hj; simp [Addr.add]
theorem lab_built (w : World) : (w.alloc (.cells #[] 3)).ownsRow w.heap.size 3 1 (.slice (some ⟨w.heap.size, 0, none⟩) 0 0) 0 [] :=
  World.ownsRow_lit w #[] 0 (Nat.le_refl _) (by unfold maxLen; omega) rfl
theorem lab_form {w : World} {base e size n : Nat} {v : Value} {xs : List Value} (h : w.ownsRow base e size v n xs) : ∃ A c, v = .slice A n c := by
  rcases h.2 with ⟨rfl, rfl⟩ | ⟨g, cap, _, rfl, _⟩
  · exact ⟨_, _, rfl⟩
  · exact ⟨_, _, rfl⟩
theorem lab_one (x : Int) : ∀ u ∈ [Value.int .i64 x], u.oneCell' = true := by
  intro u hu
  simp at hu
  subst hu
  rfl
theorem lab_snoc (xs : List Int) (x : Int) : vi (xs ++ [x]) = vi xs ++ [.int .i64 x] := by rw [vi_append]; rfl
theorem lab_ne {w : World} {lo e size n b : Nat} {v : Value} {xs : List Value} (h : w.ownsRow lo e size v n xs) (hb : w.heap.size ≤ b) : v.ownBlock ≠ some b := fun e => by have := (h.lt b e).2; omega
theorem lab_below {w W W' : World} {lo e size n : Nat} {v : Value} {xs : List Value} (hb : Below lo w W) (ho : W.ownsRow lo e size v n xs) (hs : lo ≤ W.heap.size) (hg : W.grownBy W' v.ownBlock) : Below lo w W' :=
  hb.grown hg hs (fun k hk => (ho.lt k hk).1)
/-- New numbers. -/
def MadeZ (w : World) (xs : List Int) (e : Ending) (w' : World) : Prop :=
  ∃ A c, e = .returned (.slice A xs.length c) ∧ w'.ownsRow w.heap.size 3 1 (.slice A xs.length c) xs.length (vi xs) ∧ Below w.heap.size w w'
end Go.Proofs.YtpgnappddddlpaaGreatDoor
namespace Go.Proofs.YtpgnappddddlpaaGreatDoor
open Go.RowKit

/-- A block of two cells that may be written. -/
structure DBox (w : World) (b : Nat) (v0 v1 : Value) : Prop where
  lt : b < w.heap.size
  c0 : w.cell? ⟨b, 0, none⟩ = some v0
  c1 : w.cell? ⟨b, 1, none⟩ = some v1
  f : ∀ i, w.frozen? ⟨b, i, none⟩ = false
section
variable {w w' : World} {b : Nat} {v0 v1 : Value}
theorem DBox.keep (h : DBox w b v0 v1) (hs : w.heap.size ≤ w'.heap.size) (hk : w'.heap[b]? = w.heap[b]?) : DBox w' b v0 v1 :=
  ⟨Nat.lt_of_lt_of_le h.lt hs, (World.cell?_of_block (a := ⟨b, 0, none⟩) hk).trans h.c0, (World.cell?_of_block (a := ⟨b, 1, none⟩) hk).trans h.c1, fun i => (World.frozen?_of_block (a := ⟨b, i, none⟩) hk).trans (h.f i)⟩
theorem DBox.below (h : DBox w b v0 v1) (hb : Below w.heap.size w w') : DBox w' b v0 v1 := h.keep hb.size (hb.block b h.lt)
theorem DBox.grown {row : Option Nat} (h : DBox w b v0 v1) (hg : w.grownBy w' row) (hr : row ≠ some b) : DBox w' b v0 v1 := h.keep hg.size (hg.block b h.lt (fun e => hr e.symm))
theorem DBox.new (w : World) (v0 v1 : Value) (t : TypeId) : DBox (w.alloc (.cells #[v0, v1] t)) w.heap.size v0 v1 := ⟨by simp, by simp, by simp, fun i => by simp⟩
theorem DBox.alloc (h : DBox w b v0 v1) (o : Obj) : DBox (w.alloc o) b v0 v1 := h.below (below_a1 w o)
theorem DBox.drew (h : DBox w b v0 v1) : DBox w.drew b v0 v1 := ⟨h.lt, h.c0, h.c1, h.f⟩
end

theorem own_formG {w : World} {base e size n : Nat} {v : Value} {xs : List Value} (h : w.ownsRow base e size v n xs) : ∃ A c, v = .slice A n c ∧ n ≤ c := by
  rcases h.2 with ⟨rfl, rfl⟩ | ⟨g, cap, _, rfl, _, _, hc, _⟩
  · exact ⟨_, _, rfl, Nat.le_refl _⟩
  · exact ⟨_, _, rfl, hc⟩
end Go.Proofs.YtpgnappddddlpaaGreatDoor
namespace Go.Proofs.YtpgnappddddlpaaGreatDoor
open Go.RowKit
set_option linter.unusedVariables false

def zI (l : List Nat) : List Int := l.map fun i : Nat => (i : Int)
theorem zI_snoc (l : List Nat) (k : Nat) : vi (zI (l ++ [k])) = vi (zI l) ++ [.int .i64 (k : Int)] := by unfold zI vi; simp
theorem zI_get {l : List Nat} {i k : Nat} (h : l[i]? = some k) : (zI l)[i]? = some (k : Int) := by unfold zI; rw [List.getElem?_map, h]; rfl
theorem vw_reads (w : World) (e : VE) (t : TypeId) (g : Nat) (hg : g = w.heap.size) : Reads (w.alloc (.cells #[.bool e.i, .bool e.o, .int .i64 e.w, .int .i64 e.v] t)) (g + 1) 4 (some ⟨g, 0, none⟩) 1 (VE.cells e) := by
  subst hg
  refine ⟨rfl, fun _ => ⟨_, rfl, by simp, fun j v hj => ?_⟩⟩
  match j, hj with
  | 0, hj => simp [VE.cells] at hj; subst hj; simp [Addr.add]
  | 1, hj => simp [VE.cells] at hj; subst hj; simp [Addr.add]
  | 2, hj => simp [VE.cells] at hj; subst hj; simp [Addr.add]
  | 3, hj => simp [VE.cells] at hj; subst hj; simp [Addr.add]
/-- New views, and new places. -/
def MadeVI (w : World) (es : List VE) (is : List Nat) (e : Ending) (w' : World) : Prop :=
  ∃ A c A' c', e = .returned (.tuple #[.slice A is.length c, .slice A' is.length c']) ∧ w'.ownsRow w.heap.size 94 4 (.slice A is.length c) is.length (es.flatMap VE.cells) ∧ w'.ownsRow w.heap.size 3 1 (.slice A' is.length c') is.length (vi (zI is)) ∧ Below w.heap.size w w'
/-- While they are gathered. -/
structure VSt (w wr : World) (A1 : Option Addr) (c1 : Nat) (A2 : Option Addr) (c2 : Nat) (es : List VE) (is : List Nat) : Prop where
  v : wr.ownsRow w.heap.size 94 4 (.slice A1 is.length c1) is.length (es.flatMap VE.cells)
  i : wr.ownsRow w.heap.size 3 1 (.slice A2 is.length c2) is.length (vi (zI is))
  h : Below w.heap.size w wr
section
variable {w wr w5 : World} {A1 A2 : Option Addr} {c1 c2 : Nat} {es : List VE} {is : List Nat}
theorem VSt.below (h : VSt w wr A1 c1 A2 c2 es is) (hb : Below wr.heap.size wr w5) : VSt w w5 A1 c1 A2 c2 es is := ⟨own_below h.v hb, own_below h.i hb, g_chain h.h hb⟩
theorem VSt.alloc (h : VSt w wr A1 c1 A2 c2 es is) (o : Obj) : VSt w (wr.alloc o) A1 c1 A2 c2 es is := h.below (below_a1 wr o)
theorem VSt.drewN (h : VSt w wr A1 c1 A2 c2 es is) (q : Nat) : VSt w (wr.drewN q) A1 c1 A2 c2 es is := ⟨own_drewN h.v q, own_drewN h.i q, below_drewN h.h q⟩
theorem VSt.drew (h : VSt w wr A1 c1 A2 c2 es is) : VSt w wr.drew A1 c1 A2 c2 es is := ⟨h.v, h.i, h.h.drew⟩
/-- A view is appended. -/
theorem VSt.gotV (h : VSt w wr A1 c1 A2 c2 es is) {o : Obj} {e : VE} {P : Option Addr} {cp : Nat} (hg : (wr.alloc o).grownBy w5 (Value.slice A1 is.length c1).ownBlock) (ho : w5.ownsRow w.heap.size 94 4 (.slice P (is.length + 1) cp) (is.length + 1) (es.flatMap VE.cells ++ e.cells)) :
    w5.ownsRow w.heap.size 94 4 (.slice P (is.length + 1) cp) (is.length + 1) ((es ++ [e]).flatMap VE.cells) ∧ w5.ownsRow w.heap.size 3 1 (.slice A2 is.length c2) is.length (vi (zI is)) ∧ Below w.heap.size w w5 := by
  have ha := h.alloc o
  refine ⟨by rw [flat_snoc]; exact ho, ha.i.kept hg ((own_types ha.i ha.v (by decide)).imp id fun h e => h e.symm), ha.h.grown hg ha.h.size (fun k hk => (ha.v.lt k hk).1)⟩
/-- And its place. -/
theorem VSt.gotI {lv : Nat} {fs : List VE} (hv : wr.ownsRow w.heap.size 94 4 (.slice A1 lv c1) lv (fs.flatMap VE.cells)) (hi : wr.ownsRow w.heap.size 3 1 (.slice A2 is.length c2) is.length (vi (zI is))) (hb : Below w.heap.size w wr) (hl : lv = is.length + 1) {o : Obj} {k : Nat} {P : Option Addr} {cp : Nat} (hg : (wr.alloc o).grownBy w5 (Value.slice A2 is.length c2).ownBlock) (ho : w5.ownsRow w.heap.size 3 1 (.slice P (is.length + 1) cp) (is.length + 1) (vi (zI is) ++ [.int .i64 (k : Int)])) :
    VSt w w5 A1 c1 P cp fs (is ++ [k]) := by
  have hv1 := own_below hv (below_a1 wr o)
  have hi1 := own_below hi (below_a1 wr o)
  have hb1 := g_chain hb (below_a1 wr o)
  subst hl
  refine ⟨?_, ?_, hb1.grown hg hb1.size (fun q hq => (hi1.lt q hq).1)⟩
  · rw [List.length_append]; exact hv1.kept hg ((own_types hv1 hi1 (by decide)).imp id fun h e => h e.symm)
  · rw [List.length_append, zI_snoc]; exact ho
end
theorem idx_yes {G : List GE} {v : Int} {k : Nat} {e : GE} (he : G[k]? = some e) (h : e.f = v ∨ e.t = v) : idxT G v (k + 1) = idxT G v k ++ [k] := by
  rw [idx_step, if_pos]
  unfold incB edgeAt
  rw [List.getD_eq_getElem?_getD, he]
  simpa using h
theorem idx_no {G : List GE} {v : Int} {k : Nat} {e : GE} (he : G[k]? = some e) (h1 : e.f ≠ v) (h2 : e.t ≠ v) : idxT G v (k + 1) = idxT G v k := by
  rw [idx_step, if_neg]
  unfold incB edgeAt
  rw [List.getD_eq_getElem?_getD, he]
  simp [h1, h2]
theorem viewAt_is {G : List GE} {E : List Int} {v : Int} {k : Nat} {e : GE} {x : Int} (he : G[k]? = some e) (hx : E[k]? = some x) : viewAt G E v k = ⟨decide (e.t = v), decide (e.f = v), e.w, x⟩ := by
  unfold viewAt viewE edgeAt
  rw [List.getD_eq_getElem?_getD, he, List.getD_eq_getElem?_getD, hx]
  rfl
end Go.Proofs.YtpgnappddddlpaaGreatDoor
namespace Go.Proofs.YtpgnappddddlpaaGreatDoor
open Go.RowKit
set_option linter.unusedVariables false

/-- The blocks that an update writes. -/
def updBlk (A : Option Addr) (n c : Nat) (B : Option Addr) (m d : Nat) (C : Option Addr) (j k : Nat) (D : Option Addr) (q e : Nat) (g : Nat) : Prop := (Value.slice A n c).ownBlock = some g ∨ (Value.slice B m d).ownBlock = some g ∨ (Value.slice C j k).ownBlock = some g ∨ (Value.slice D q e).ownBlock = some g
structure USt (w0 w : World) (b : Nat) (p s it : Int) (dn : Bool) (A : Option Addr) (n c : Nat) (B : Option Addr) (m d : Nat) (nn : Int) (C : Option Addr) (j k : Nat) (D : Option Addr) (q e : Nat) (vs ev : List Int) (nx nw : List Nat) : Prop where
  r : RSt w w0.heap.size b p s it dn A n c B m d nn C j k vs ev nx
  d : w.ownsRow w0.heap.size 5 1 (.slice D q e) q (vb nw)
  ap : (Value.slice C j k).ownBlock = none ∨ (Value.slice D q e).ownBlock ≠ (Value.slice C j k).ownBlock
  h : Below w0.heap.size w0 w
theorem ap_flip {a b : Option Nat} (h : a = none ∨ b ≠ a) : b = none ∨ b ≠ a := by
  rcases h with h | h
  · cases b with
    | none => exact .inl rfl
    | some x => exact .inr (by rw [h]; simp)
  · exact .inr h
theorem ap_turn {a b : Option Nat} (h : a = none ∨ b ≠ a) : a = none ∨ a ≠ b := h.imp id fun h e => h e.symm
section
variable {w0 w w' : World} {b n c m d j k q e : Nat} {p s it nn : Int} {dn : Bool} {A B C D : Option Addr} {vs ev : List Int} {nx nw : List Nat}
theorem USt.below (h : USt w0 w b p s it dn A n c B m d nn C j k D q e vs ev nx nw) (hb : Below w.heap.size w w') : USt w0 w' b p s it dn A n c B m d nn C j k D q e vs ev nx nw :=
  ⟨h.r.below hb, own_below h.d hb, h.ap, g_chain h.h hb⟩
theorem USt.drewN (h : USt w0 w b p s it dn A n c B m d nn C j k D q e vs ev nx nw) (z : Nat) : USt w0 (w.drewN z) b p s it dn A n c B m d nn C j k D q e vs ev nx nw :=
  h.below (below_drewN (Below.refl _ _) z)
/-- The present set is marked. -/
theorem USt.gotD (h : USt w0 w b p s it dn A n c B m d nn C j k D q e vs ev nx nw) {zs : List Nat} (ho : w'.ownsRow w0.heap.size 5 1 (.slice D q e) q (vb zs)) (hg : w.grownBy w' (Value.slice D q e).ownBlock) : USt w0 w' b p s it dn A n c B m d nn C j k D q e vs ev nx zs :=
  ⟨⟨h.r.bx.grown hg (own_kind h.d h.r.bx (by decide)), h.r.v.kept hg (ap_turn (own_types h.r.v h.d (by decide))), h.r.e.kept hg (ap_turn (own_types h.r.e h.d (by decide))), h.r.x.kept hg (ap_turn h.ap), h.r.ap, h.r.lb⟩, ho, h.ap, h.h.grown hg h.h.size (fun i hi => (h.d.lt i hi).1)⟩
/-- The next set is marked. -/
theorem USt.gotX (h : USt w0 w b p s it dn A n c B m d nn C j k D q e vs ev nx nw) {zs : List Nat} (ho : w'.ownsRow w0.heap.size 5 1 (.slice C j k) j (vb zs)) (hg : w.grownBy w' (Value.slice C j k).ownBlock) : USt w0 w' b p s it dn A n c B m d nn C j k D q e vs ev zs nw :=
  ⟨⟨h.r.bx.grown hg (own_kind h.r.x h.r.bx (by decide)), h.r.v.kept hg (ap_turn (own_types h.r.v h.r.x (by decide))), h.r.e.kept hg (ap_turn (own_types h.r.e h.r.x (by decide))), ho, h.r.ap, h.r.lb⟩, h.d.kept hg (ap_flip h.ap), h.ap, h.h.grown hg h.h.size (fun i hi => (h.r.x.lt i hi).1)⟩
end
section
variable {w0 w w' : World} {b n c m d j k q e g : Nat} {p s it nn : Int} {dn : Bool} {A B C D : Option Addr} {vs ev : List Int} {nx nw : List Nat}
theorem vi_set (l : List Int) (i : Nat) (x : Int) : (vi l).set i (.int .i64 x) = vi (l.set i x) := by simp [vi, List.map_set]
/-- A value is stored. -/
theorem USt.gotV (h : USt w0 w b p s it dn (some ⟨g, 0, none⟩) n c B m d nn C j k D q e vs ev nx nw) (i : Nat) (x : Int) : USt w0 (w.setCell ⟨g, i, none⟩ (.int .i64 x)) b p s it dn (some ⟨g, 0, none⟩) n c B m d nn C j k D q e (vs.set i x) ev nx nw := by
  have hs := h.r.v.stored i (.int .i64 x)
  rw [vi_set] at hs
  have hg : w.grownBy (w.setCell ⟨g, i, none⟩ (.int .i64 x)) (Value.slice (some ⟨g, 0, none⟩) n c).ownBlock := hs.2
  exact ⟨⟨h.r.bx.grown hg (own_kind h.r.v h.r.bx (by decide)), hs.1, h.r.e.kept hg (ap_flip h.r.ap), h.r.x.kept hg (ap_turn (own_types h.r.x h.r.v (by decide))), h.r.ap, h.r.lb⟩, h.d.kept hg (ap_turn (own_types h.d h.r.v (by decide))), h.ap, h.h.grown hg h.h.size (fun z hz => (h.r.v.lt z hz).1)⟩
/-- The value of an edge is stored. -/
theorem USt.gotE (h : USt w0 w b p s it dn A n c (some ⟨g, 0, none⟩) m d nn C j k D q e vs ev nx nw) (i : Nat) (x : Int) : USt w0 (w.setCell ⟨g, i, none⟩ (.int .i64 x)) b p s it dn A n c (some ⟨g, 0, none⟩) m d nn C j k D q e vs (ev.set i x) nx nw := by
  have hs := h.r.e.stored i (.int .i64 x)
  rw [vi_set] at hs
  have hg : w.grownBy (w.setCell ⟨g, i, none⟩ (.int .i64 x)) (Value.slice (some ⟨g, 0, none⟩) m d).ownBlock := hs.2
  exact ⟨⟨h.r.bx.grown hg (own_kind h.r.e h.r.bx (by decide)), h.r.v.kept hg (ap_turn h.r.ap), hs.1, h.r.x.kept hg (ap_turn (own_types h.r.x h.r.e (by decide))), h.r.ap, h.r.lb⟩, h.d.kept hg (ap_turn (own_types h.d h.r.e (by decide))), h.ap, h.h.grown hg h.h.size (fun z hz => (h.r.e.lt z hz).1)⟩
end
section
variable {w0 w w' : World} {b n c m d j k q e g : Nat} {p s it nn : Int} {dn : Bool} {A B C D : Option Addr} {vs ev : List Int} {nx nw : List Nat}
theorem USt.olds (h : USt w0 w b p s it dn A n c B m d nn C j k D q e vs ev nx nw) : (∀ g, (Value.slice A n c).ownBlock = some g → g < w.heap.size) ∧ (∀ g, (Value.slice B m d).ownBlock = some g → g < w.heap.size) ∧ (∀ g, (Value.slice C j k).ownBlock = some g → g < w.heap.size) ∧ ∀ g, (Value.slice D q e).ownBlock = some g → g < w.heap.size :=
  ⟨fun g hg => (h.r.v.lt g hg).2, fun g hg => (h.r.e.lt g hg).2, fun g hg => (h.r.x.lt g hg).2, fun g hg => (h.d.lt g hg).2⟩
end
/-- What else the update of a vertex holds: its boxes, the views, their places, the new values of the edges; all of it at L and above. -/
structure UAux (L : Nat) (w : World) (b1 b2 : Nat) (g1 g2 : Array Value) (t1 t2 : TypeId) (A1 : Option Addr) (c1 : Nat) (A2 : Option Addr) (c2 : Nat) (A3 : Option Addr) (c3 : Nat) (es : List VE) (is : List Nat) (ys : List Int) : Prop where
  bg : Blk w b1 g1 t1
  bn : Blk w b2 g2 t2
  l1 : L ≤ b1
  l2 : L ≤ b2
  ov : w.ownsRow L 94 4 (.slice A1 is.length c1) is.length (es.flatMap VE.cells)
  oi : w.ownsRow L 3 1 (.slice A2 is.length c2) is.length (vi (zI is))
  oy : w.ownsRow L 3 1 (.slice A3 is.length c3) is.length (vi ys)
section
variable {L : Nat} {w w' : World} {b1 b2 : Nat} {g1 g2 : Array Value} {t1 t2 : TypeId} {A1 A2 A3 : Option Addr} {c1 c2 c3 : Nat} {es : List VE} {is : List Nat} {ys : List Int}
theorem UAux.below (h : UAux L w b1 b2 g1 g2 t1 t2 A1 c1 A2 c2 A3 c3 es is ys) (hb : Below w.heap.size w w') : UAux L w' b1 b2 g1 g2 t1 t2 A1 c1 A2 c2 A3 c3 es is ys :=
  ⟨h.bg.below hb, h.bn.below hb, h.l1, h.l2, own_below h.ov hb, own_below h.oi hb, own_below h.oy hb⟩
theorem UAux.drewN (h : UAux L w b1 b2 g1 g2 t1 t2 A1 c1 A2 c2 A3 c3 es is ys) (z : Nat) : UAux L (w.drewN z) b1 b2 g1 g2 t1 t2 A1 c1 A2 c2 A3 c3 es is ys := h.below (below_drewN (Below.refl _ _) z)
theorem own_late {w w' : World} {L e s n g : Nat} {v : Value} {xs : List Value} (h : w.ownsRow L e s v n xs) {row : Option Nat} (hg : w.grownBy w' row) (hr : ∀ g, row = some g → g < L) : w'.ownsRow L e s v n xs :=
  h.kept hg (by
    cases hv : v.ownBlock with
    | none => exact .inl rfl
    | some x => exact .inr (fun e => by have := (h.lt x hv).1; have := hr x e.symm; omega))
theorem UAux.grown (h : UAux L w b1 b2 g1 g2 t1 t2 A1 c1 A2 c2 A3 c3 es is ys) {row : Option Nat} (hg : w.grownBy w' row) (hr : ∀ g, row = some g → g < L) : UAux L w' b1 b2 g1 g2 t1 t2 A1 c1 A2 c2 A3 c3 es is ys :=
  ⟨h.bg.grown hg (fun e => by have := hr _ e; have := h.l1; omega), h.bn.grown hg (fun e => by have := hr _ e; have := h.l2; omega), h.l1, h.l2, own_late (g := 0) h.ov hg hr, own_late (g := 0) h.oi hg hr, own_late (g := 0) h.oy hg hr⟩
end
/-! ### one edge after the other, as data -/
/-- The state when the first k of the edges have been looked at. -/
def atK (N : Int) (G : List GE) (v : Nat) (f : Nat → Int) (S : ID) (l k : Nat) : ID := ((idxT G v l).take k).foldl (estep N G v f) S
theorem atK_step {N : Int} {G : List GE} {v : Nat} {f : Nat → Int} {S : ID} {l k i : Nat} (h : (idxT G v l)[k]? = some i) : atK N G v f S l (k + 1) = estep N G v f (atK N G v f S l k) i := by
  unfold atK
  rw [g_take _ _ _ h, List.foldl_append]
  rfl
theorem atK_full {N : Int} {G : List GE} {v : Nat} {f : Nat → Int} {S : ID} {l : Nat} : atK N G v f S l (idxT G v l).length = (idxT G v l).foldl (estep N G v f) S := by
  unfold atK
  rw [List.take_length]
theorem atK_ok {p : Int} {N : Nat} {G : List GE} (hG : graphB (N : Int) G = true) (v : Nat) (f : Nat → Int) (S : ID) (hs : S.ev.length = G.length) (h1 : setB (N : Int) S.nx = true) (h2 : setB (N : Int) S.nw = true) (k : Nat) : Stepped p N G v f ((idxT G v G.length).take k) S (atK (N : Int) G v f S G.length k) :=
  fold_step hG v f _ S (List.Pairwise.sublist (List.take_sublist _ _) (idx_nodup G v G.length)) (fun i hi => by
    have := (idx_mem.1 (List.mem_of_mem_take hi)).1
    omega) h1 h2
theorem not_before {l : List Nat} (h : l.Nodup) {k i : Nat} (hk : l[k]? = some i) : i ∉ l.take k := by
  intro hm
  obtain ⟨hk2, rfl⟩ := List.getElem?_eq_some_iff.1 hk
  rw [List.mem_take_iff_getElem] at hm
  obtain ⟨a, ha, he⟩ := hm
  have := (List.getElem_inj h).1 he
  omega
end Go.Proofs.YtpgnappddddlpaaGreatDoor
namespace Go.Proofs.YtpgnappddddlpaaGreatDoor
open Go.RowKit
set_option linter.unusedVariables false

section
variable {w0 w w' : World} {lo b n c m d j k : Nat} {p s it nn : Int} {dn : Bool} {A B C : Option Addr} {vs ev : List Int} {nx : List Nat}
end
end Go.Proofs.YtpgnappddddlpaaGreatDoor
namespace Go.Proofs.YtpgnappddddlpaaGreatDoor
open Go.RowKit
set_option linter.unusedVariables false

/-- What else it holds. -/
structure MAux (L : Nat) (w : World) (g1 z1 z2 : Array Value) (t1 : TypeId) (N : Int) (D : Option Addr) (q e : Nat) (A1 : Option Addr) (c1 : Nat) (A2 : Option Addr) (c2 : Nat) (A3 : Option Addr) (c3 : Nat) (es : List VE) (is : List Nat) (ys : List Int) : Prop where
  u : UAux L w L (L + 3) g1 z1 t1 39 A1 c1 A2 c2 A3 c3 es is ys
  z : Blk w (L + 4) z2 37
  n : Blk w (L + 2) #[.int .i64 N, .slice D q e] 37
section
variable {L b1 b2 : Nat} {w w' : World} {g1 g2 z1 z2 : Array Value} {t1 t2 : TypeId} {N : Int} {D D' : Option Addr} {q e q' e' : Nat} {A1 A2 A3 : Option Addr} {c1 c2 c3 : Nat} {es : List VE} {is : List Nat} {ys : List Int}
theorem MAux.below (h : MAux L w g1 z1 z2 t1 N D q e A1 c1 A2 c2 A3 c3 es is ys) (hb : Below w.heap.size w w') : MAux L w' g1 z1 z2 t1 N D q e A1 c1 A2 c2 A3 c3 es is ys := ⟨h.u.below hb, h.z.below hb, h.n.below hb⟩
theorem MAux.drewN (h : MAux L w g1 z1 z2 t1 N D q e A1 c1 A2 c2 A3 c3 es is ys) (k : Nat) : MAux L (w.drewN k) g1 z1 z2 t1 N D q e A1 c1 A2 c2 A3 c3 es is ys := h.below (below_drewN (Below.refl _ _) k)
theorem MAux.grown (h : MAux L w g1 z1 z2 t1 N D q e A1 c1 A2 c2 A3 c3 es is ys) {row : Option Nat} (hg : w.grownBy w' row) (hr : ∀ g, row = some g → g < L) : MAux L w' g1 z1 z2 t1 N D q e A1 c1 A2 c2 A3 c3 es is ys :=
  ⟨h.u.grown hg hr, h.z.grown hg (fun e => by have := hr _ e; omega), h.n.grown hg (fun e => by have := hr _ e; omega)⟩
/-- Another block of its own is written, one of another type than the rows'. -/
theorem UAux.apart (h : UAux L w b1 b2 g1 g2 t1 t2 A1 c1 A2 c2 A3 c3 es is ys) {g : Nat} {cs : Array Value} {t : TypeId} (hg : w.grownBy w' (some g)) (hb : Blk w g cs t) (h1 : b1 ≠ g) (h2 : b2 ≠ g) (hv : 94 ≠ t) (hi : 3 ≠ t) : UAux L w' b1 b2 g1 g2 t1 t2 A1 c1 A2 c2 A3 c3 es is ys :=
  ⟨h.bg.grown hg (fun e => h1 (by injection e with e; exact e.symm)), h.bn.grown hg (fun e => h2 (by injection e with e; exact e.symm)), h.l1, h.l2, own_kept h.ov hg (own_kind h.ov hb hv), own_kept h.oi hg (own_kind h.oi hb hi), own_kept h.oy hg (own_kind h.oy hb hi)⟩
theorem set2_grown (w : World) (b i k : Nat) (u v : Value) : w.grownBy ((w.setCell ⟨b, i, none⟩ u).setCell ⟨b, k, none⟩ v) (some b) := (grown_cell w b i u).trans (grown_cell _ b k v)
theorem MAux.setNow (h : MAux L w g1 z1 z2 t1 N D q e A1 c1 A2 c2 A3 c3 es is ys) : MAux L ((w.setCell ⟨L + 2, 0, none⟩ (.int .i64 N)).setCell ⟨L + 2, 1, none⟩ (.slice D' q' e')) g1 z1 z2 t1 N D' q' e' A1 c1 A2 c2 A3 c3 es is ys := by
  have hg := set2_grown w (L + 2) 0 1 (.int .i64 N) (.slice D' q' e')
  exact ⟨h.u.apart hg h.n (by omega) (by omega) (by decide) (by decide), h.z.grown hg (by intro e; injection e with e; omega), Blk.set (Blk.set h.n 0 (.int .i64 N)) 1 (.slice D' q' e')⟩
theorem MAux.setNext (h : MAux L w g1 z1 z2 t1 N D q e A1 c1 A2 c2 A3 c3 es is ys) {cs : Array Value} (hb : Blk w (L + 1) cs 39) (u v : Value) : MAux L ((w.setCell ⟨L + 1, 6, none⟩ u).setCell ⟨L + 1, 7, none⟩ v) g1 z1 z2 t1 N D q e A1 c1 A2 c2 A3 c3 es is ys := by
  have hg := set2_grown w (L + 1) 6 7 u v
  exact ⟨h.u.apart hg hb (by omega) (by omega) (by decide) (by decide), h.z.grown hg (by intro e; injection e with e; omega), h.n.grown hg (by intro e; injection e with e; omega)⟩
end
section
variable {w0 w w' : World} {b n c m d j k q e j' k' q' e' : Nat} {p s it nn : Int} {dn : Bool} {A B C D C' D' : Option Addr} {vs ev : List Int} {nx nw zs : List Nat}
/-- A block of another type is written. -/
theorem USt.past (h : USt w0 w b p s it dn A n c B m d nn C j k D q e vs ev nx nw) {g : Nat} {cs : Array Value} {t : TypeId} (hg : w.grownBy w' (some g)) (hb : Blk w g cs t) (hlg : w0.heap.size ≤ g) (hne : g ≠ b) (hi : 3 ≠ t) (hu : 5 ≠ t) : USt w0 w' b p s it dn A n c B m d nn C j k D q e vs ev nx nw :=
  ⟨h.r.other hg hne (own_kind h.r.v hb hi) (own_kind h.r.e hb hi) (own_kind h.r.x hb hu), own_kept h.d hg (own_kind h.d hb hu), h.ap, h.h.grown hg h.h.size (fun i hi => by injection hi with hi; omega)⟩
theorem USt.setNow (h : USt w0 w b p s it dn A n c B m d nn C j k D q e vs ev nx nw) {g : Nat} {cs : Array Value} {N : Int} (hb : Blk w g cs 37) (hlg : w0.heap.size ≤ g) (hne : g ≠ b) (hd : w.ownsRow w0.heap.size 5 1 (.slice D' q' e') q' (vb zs)) (ap : (Value.slice C j k).ownBlock = none ∨ (Value.slice D' q' e').ownBlock ≠ (Value.slice C j k).ownBlock) :
    USt w0 ((w.setCell ⟨g, 0, none⟩ (.int .i64 N)).setCell ⟨g, 1, none⟩ (.slice D' q' e')) b p s it dn A n c B m d nn C j k D' q' e' vs ev nx zs := by
  have hg := (grown_cell w g 0 (.int .i64 N)).trans (grown_cell (w.setCell ⟨g, 0, none⟩ (.int .i64 N)) g 1 (.slice D' q' e'))
  exact ⟨h.r.other hg hne (own_kind h.r.v hb (by decide)) (own_kind h.r.e hb (by decide)) (own_kind h.r.x hb (by decide)), own_kept hd hg (own_kind hd hb (by decide)), ap, h.h.grown hg h.h.size (fun i hi => by injection hi with hi; omega)⟩
theorem USt.setNext (h : USt w0 w b p s it dn A n c B m d nn C j k D q e vs ev nx nw) (hd : w.ownsRow w0.heap.size 5 1 (.slice C' j' k') j' (vb zs)) (ap : (Value.slice C' j' k').ownBlock = none ∨ (Value.slice D q e).ownBlock ≠ (Value.slice C' j' k').ownBlock) :
    USt w0 ((w.setCell ⟨b, 6, none⟩ (.int .i64 nn)).setCell ⟨b, 7, none⟩ (.slice C' j' k')) b p s it dn A n c B m d nn C' j' k' D q e vs ev zs nw := by
  have hg := (grown_cell w b 6 (.int .i64 nn)).trans (grown_cell (w.setCell ⟨b, 6, none⟩ (.int .i64 nn)) b 7 (.slice C' j' k'))
  exact ⟨⟨Blk.set (Blk.set h.r.bx 6 (.int .i64 nn)) 7 (.slice C' j' k'), own_kept h.r.v hg (own_kind h.r.v h.r.bx (by decide)), own_kept h.r.e hg (own_kind h.r.e h.r.bx (by decide)), own_kept hd hg (own_kind hd h.r.bx (by decide)), h.r.ap, h.r.lb⟩, own_kept h.d hg (own_kind h.d h.r.bx (by decide)), ap, h.h.grown hg h.h.size (fun i hi => by injection hi with hi; have := h.r.lb; omega)⟩
end
/-- The blocks that it writes, of those that were there. -/
def abBlk (A : Option Addr) (n c : Nat) (B : Option Addr) (m d : Nat) (g : Nat) : Prop := (Value.slice A n c).ownBlock = some g ∨ (Value.slice B m d).ownBlock = some g
/-- What the model's update of a vertex answers. -/
def MadeVt (w0 w : World) (p s it : Int) (dn : Bool) (A : Option Addr) (n c : Nat) (B : Option Addr) (m d : Nat) (nn N : Int) (T : ID) (r : Ending) (w' : World) : Prop :=
  ∃ C j k D q e, r = .returned (.tuple #[.agg #[.int .i64 p, .int .i64 s, .int .i64 it, .bool dn, .slice A n c, .slice B m d, .int .i64 nn, .slice C j k], .agg #[.int .i64 N, .slice D q e]]) ∧ Rows3 w' w0.heap.size A n c B m d C j k T.vs T.ev T.nx ∧ w'.ownsRow w0.heap.size 5 1 (.slice D q e) q (vb T.nw) ∧ ((Value.slice C j k).ownBlock = none ∨ (Value.slice D q e).ownBlock ≠ (Value.slice C j k).ownBlock) ∧ Below w0.heap.size w0 w' ∧ OnlyB (abBlk A n c B m d) w w'
end Go.Proofs.YtpgnappddddlpaaGreatDoor
namespace Go.Proofs.YtpgnappddddlpaaGreatDoor
open Go.RowKit
set_option linter.unusedVariables false

section
variable {w0 w : World} {lo b n c m d j k q e : Nat} {p s it nn : Int} {dn : Bool} {A B C D : Option Addr} {vs ev : List Int} {nx nw : List Nat} {y0 y1 y2 y3 y4 y5 y6 y7 : Value}
/-- A run that has just been made stands in a block made behind it. -/
theorem RSt.made (hr : Rows3 w lo A n c B m d C j k vs ev nx) (hl : lo ≤ w.heap.size) :
    RSt (w.alloc (.cells #[.int .i64 p, .int .i64 s, .int .i64 it, .bool dn, .slice A n c, .slice B m d, .int .i64 nn, .slice C j k] 39)) lo w.heap.size p s it dn A n c B m d nn C j k vs ev nx :=
  let hb := below_a1 w (.cells #[.int .i64 p, .int .i64 s, .int .i64 it, .bool dn, .slice A n c, .slice B m d, .int .i64 nn, .slice C j k] 39)
  ⟨Blk.new w _ _, own_below hr.v hb, own_below hr.e hb, own_below hr.x hb, hr.ap, hl⟩
/-- Neither block of an update is one that holds no row. -/
theorem abBlk_not {g : Nat} {cs : Array Value} {t : TypeId} (hr : Rows3 w lo A n c B m d C j k vs ev nx) (hb : Blk w g cs t) (hi : 3 ≠ t) : ¬ abBlk A n c B m d g := by
  rintro (h | h)
  · exact own_kind hr.v hb hi h
  · exact own_kind hr.e hb hi h
end
end Go.Proofs.YtpgnappddddlpaaGreatDoor
