/- Runs in memory as arguments of the laws: marks in one, and the opening of one that came in. Condition: at most 2^20 numbers and bytes. // Edges, graphs and numbers: the contracts of the laws' helpers that measure and copy. Condition: at most 2^21 of each. // Runs as the laws' walks take them: the laws' helpers in plain words of rows and lengths; what stays where marks are left (conditions: at most 2^20 numbers and bytes). // What an update gives lies in the limits; an update done twice is done once (data only; no condition). // One vertex, one iteration: what stays valid; a vertex that is not to be updated is stable (data only; no condition). // A new run, an iteration, many iterations as data: what is valid stays valid; in two parts or at once; a finished run does not change (data only; no condition). // What RunIter and RunAll answer, as data, and what they leave in memory (plain lemmas; no condition). // What stands while a new run is made, and what it is, as data (plain lemmas; no condition). // How long the lists of a run that is answered are (plain lemmas; no condition). // The table of the weights as a row lists it: what the listed datum says of memory; it reads as before where nothing old is written. // Lists of numbers of a call's own: small words (plain lemmas over the model; no condition). // A block of two writable cells, what grows while one block is written, a new record that reads (plain lemmas over the model; no condition). // The views that a vertex of a run has, and where they stand, in memory: two lists of the call's own (plain lemmas over the model; no condition). -/
import Derived.Test.YtlhcobkncceodaaGreatDoorKRunLaw
import Derived.Test.YtlhcobkncceodaaGreatDoorCGB
import Derived.Test.YtlhcobkncceodaaGreatDoorCGC
import Derived.Test.YtlhcobkncceodaaGreatDoorCGA
import Derived.Test.YtlhcobkncceodaaGreatDoorCGD
import Derived.Test.YtlhcobkncceodaaGreatDoorRows
import Derived.WalkKit
import Derived.ProofKit
import Derived.LaidMore
import Derived.Lay
import Derived.OpenShut
import Derived.ChangeVars
import Derived.Lib.LaidTab
namespace Go.Proofs.YtlhcobkncceodaaGreatDoor
open Go.RowKit
set_option linter.unusedVariables false

/-! ### marks -/
theorem ap_symm {a b : Option Nat} (h : a = none ∨ b ≠ a) : b = none ∨ a ≠ b := by
  rcases h with h | h
  · cases b with
    | none => exact .inl rfl
    | some x => exact .inr (by rw [h]; simp)
  · exact .inr (fun e => h e.symm)
/-- The blocks that a run's rows lie in. -/
def runBlk (A : Option Addr) (n c : Nat) (B : Option Addr) (m d : Nat) (C : Option Addr) (j k : Nat) (g : Nat) : Prop := (Value.slice A n c).ownBlock = some g ∨ (Value.slice B m d).ownBlock = some g ∨ (Value.slice C j k).ownBlock = some g
/-- What marking a run leaves. -/
def MarkedRun (w : World) (lo kk : Nat) (z : Int) (A : Option Addr) (n c : Nat) (B : Option Addr) (m d : Nat) (C : Option Addr) (j k : Nat) (e : Ending) (w' : World) : Prop :=
  e = .returned (.int .i64 z) ∧ (w'.ownsRow lo 3 1 (.slice A n c) n (vi (ints kk n)) ∧ w'.ownsRow lo 3 1 (.slice B m d) m (vi (ints (kk + n) m)) ∧ w'.ownsRow lo 5 1 (.slice C j k) j (vb (marksK (kk + n + m) j))) ∧ OnlyB (runBlk A n c B m d C j k) w w'
set_option maxHeartbeats 1000000 in
theorem markRun_any (p s it : Int) (dn : Bool) (nn : Int) (A : Option Addr) (n c : Nat) (B : Option Addr) (m d : Nat) (C : Option Addr) (j k lo kk : Nat) (vs ev : List Int) (nx : List Nat) (w : World)
    (hv : w.ownsRow lo 3 1 (.slice A n c) n (vi vs)) (he : w.ownsRow lo 3 1 (.slice B m d) m (vi ev)) (hx : w.ownsRow lo 5 1 (.slice C j k) j (vb nx)) (ha : (Value.slice A n c).ownBlock = none ∨ (Value.slice B m d).ownBlock ≠ (Value.slice A n c).ownBlock)
    (hn : n ≤ 1048576) (hm : m ≤ 1048576) (hj : j ≤ 1048576) (hk : kk ≤ 4194304) :
    Calls Tryz.prog 28 #[.agg #[.int .i64 p, .int .i64 s, .int .i64 it, .bool dn, .slice A n c, .slice B m d, .int .i64 nn, .slice C j k], .int .i64 (kk : Int)] w (MarkedRun w lo kk ((kk + n + m + j : Nat) : Int) A n c B m d C j k) := by
  have hT1 := own_types hv hx (by decide)
  have hT2 := own_types he hx (by decide)
  have B0 := Lib.hid (Blk.new w #[.int .i64 p, .int .i64 s, .int .i64 it, .bool dn, .slice A n c, .slice B m d, .int .i64 nn, .slice C j k] 32)
  have hwA : (Value.slice A n c).ownBlock ≠ some w.heap.size := fun e => by have := (hv.lt _ e).2; omega
  have hwB : (Value.slice B m d).ownBlock ≠ some w.heap.size := fun e => by have := (he.lt _ e).2; omega
  have hwC : (Value.slice C j k).ownBlock ≠ some w.heap.size := fun e => by have := (hx.lt _ e).2; omega
  have O0 : OnlyB (runBlk A n c B m d C j k) w (w.alloc (.cells #[.int .i64 p, .int .i64 s, .int .i64 it, .bool dn, .slice A n c, .slice B m d, .int .i64 nn, .slice C j k] 32)) := (OnlyB.refl _ w).below (below_a1 w _)
  have V0 := own_below hv (below_a1 w (.cells #[.int .i64 p, .int .i64 s, .int .i64 it, .bool dn, .slice A n c, .slice B m d, .int .i64 nn, .slice C j k] 32))
  have E0 := own_below he (below_a1 w (.cells #[.int .i64 p, .int .i64 s, .int .i64 it, .bool dn, .slice A n c, .slice B m d, .int .i64 nn, .slice C j k] 32))
  have X0 := own_below hx (below_a1 w (.cells #[.int .i64 p, .int .i64 s, .int .i64 it, .bool dn, .slice A n c, .slice B m d, .int .i64 nn, .slice C j k] 32))
  have C1 := Lib.hid (markInts_any A n c lo kk vs _ V0 (by omega) (by omega))
  have C2 := Lib.hid (fun W (h : W.ownsRow lo 3 1 (.slice B m d) m (vi ev)) => markInts_any B m d lo (kk + n) ev W h (by omega) (by omega))
  have C3 := Lib.hid (fun W (h : W.ownsRow lo 5 1 (.slice C j k) j (vb nx)) => markSet_any nn C j k lo (kk + n + m) nx W h (by omega) (by omega))
  unfold MarkedI at C1 C2
  unfold MarkedK at C3
  have V0 := Lib.hid V0
  have E0 := Lib.hid E0
  have X0 := Lib.hid X0
  have O0 := Lib.hid O0
  have HT1 := Lib.hid hT1
  have HT2 := Lib.hid hT2
  have HA := Lib.hid ha
  have HWA := Lib.hid hwA
  have HWB := Lib.hid hwB
  have HWC := Lib.hid hwC
  clear hv he hx ha hT1 hT2 hwA hwB hwC
  go_enter Tryz.func28, Tryz.ntmps28
  go_wp2_with fail
  refine C1.out.mono ?_
  rintro e w1 ⟨rfl, ho, hg⟩
  have B1 := Lib.hid (B0.out.grown hg HWA.out)
  have V1 := Lib.hid ho
  have E1 := Lib.hid (E0.out.kept hg (ap_symm HA.out |>.imp id fun h e => h e.symm))
  have X1 := Lib.hid (X0.out.kept hg (ap_symm HT1.out |>.imp id fun h e => h e.symm))
  have O1 := Lib.hid (O0.out.grown hg (fun i hi => .inl hi))
  clear ho hg
  have x5 := B1.out.cell (i := 5) rfl
  go_wp2_with fail
  refine (C2.out _ E1.out).mono ?_
  rintro e w2 ⟨rfl, ho, hg⟩
  have B2 := Lib.hid (B1.out.grown hg HWB.out)
  have E2 := Lib.hid ho
  have V2 := Lib.hid (V1.out.kept hg (HA.out.imp id fun h e => h e.symm))
  have X2 := Lib.hid (X1.out.kept hg (ap_symm HT2.out |>.imp id fun h e => h e.symm))
  have O2 := Lib.hid (O1.out.grown hg (fun i hi => .inr (.inl hi)))
  clear ho hg x5
  have x6 := B2.out.cell (i := 6) rfl
  have x7 := B2.out.cell (i := 7) rfl
  go_wp2_with fail
  refine (C3.out _ X2.out).mono ?_
  rintro e w3 ⟨rfl, ho, hg⟩
  have E3 := Lib.hid (E2.out.kept hg (HT2.out.imp id fun h e => h e.symm))
  have V3 := Lib.hid (V2.out.kept hg (HT1.out.imp id fun h e => h e.symm))
  have X3 := Lib.hid ho
  have O3 := Lib.hid (O2.out.grown hg (fun i hi => .inr (.inr hi)))
  clear ho hg
  go_wp2
  go_ret
  exact ⟨rfl, ⟨V3.out, E3.out, X3.out⟩, O3.out⟩
set_option maxHeartbeats 1000000 in
theorem heldRun_any (p s it : Int) (dn : Bool) (nn : Int) (A : Option Addr) (n c : Nat) (B : Option Addr) (m d : Nat) (C : Option Addr) (j k : Nat) (w : World)
    (hv : SlI w A n (ints 1 n)) (he : SlI w B m (ints (1 + n) m)) (hx : Rd w C j (marksK (1 + n + m) j)) (hn : n ≤ 1048576) (hm : m ≤ 1048576) (hj : j ≤ 1048576) :
    Calls Tryz.prog 39 #[.agg #[.int .i64 p, .int .i64 s, .int .i64 it, .bool dn, .slice A n c, .slice B m d, .int .i64 nn, .slice C j k], .int .i64 1] w (GNum w ((1 + n + m + j : Nat) : Int)) := by
  have C1 := Lib.hid (fun W (h : Below w.heap.size w W) => heldZ_any A n c 1 W (hv.below h) (by omega) (by omega))
  have C2 := Lib.hid (fun W (h : Below w.heap.size w W) => heldZ_any B m d (1 + n) W (he.below h) (by omega) (by omega))
  have C3 := Lib.hid (fun W (h : Below w.heap.size w W) => heldSet_any nn C j k (1 + n + m) W (hx.below h) (by omega) (by omega))
  have B0 := Lib.hid (Blk.new w #[.int .i64 p, .int .i64 s, .int .i64 it, .bool dn, .slice A n c, .slice B m d, .int .i64 nn, .slice C j k] 32)
  have H0 := Lib.hid (below_a1 w (.cells #[.int .i64 p, .int .i64 s, .int .i64 it, .bool dn, .slice A n c, .slice B m d, .int .i64 nn, .slice C j k] 32))
  have h1 : (0 : Int) ≤ ((1 + n : Nat) : Int) := by omega
  have h2 : (0 : Int) ≤ ((1 + n + m : Nat) : Int) := by omega
  have h3 : (0 : Int) ≤ ((1 + n + m + j : Nat) : Int) := by omega
  generalize ((1 + n + m + j : Nat) : Int) = z3 at C3 h3 ⊢
  generalize ((1 + n + m : Nat) : Int) = z2 at C2 C3 h2
  generalize ((1 + n : Nat) : Int) = z1 at C1 C2 h1
  clear hv he hx
  go_enter Tryz.func39, Tryz.ntmps39
  go_wp2_with fail
  refine (C1.out _ H0.out).mono ?_
  rintro e w1 ⟨rfl, hb⟩
  have B1 := Lib.hid (B0.out.below hb)
  have H1 := Lib.hid (g_chain H0.out hb)
  clear hb
  have x5 := B1.out.cell (i := 5) rfl
  go_wp2_with fail
  refine (C2.out _ H1.out).mono ?_
  rintro e w2 ⟨rfl, hb⟩
  have B2 := Lib.hid (B1.out.below hb)
  have H2 := Lib.hid (g_chain H1.out hb)
  clear hb x5
  have x6 := B2.out.cell (i := 6) rfl
  have x7 := B2.out.cell (i := 7) rfl
  go_wp2_with fail
  refine (C3.out _ H2.out).mono ?_
  rintro e w3 ⟨rfl, hb⟩
  have H3 := Lib.hid (g_chain H2.out hb)
  clear hb
  go_wp2
  go_ret
  exact ⟨rfl, H3.out⟩

/-! ### opening -/
def runSh : Sh := .pair jobSh (.pair (.int .i64) (.pair .bool (.pair (.sl (.int .i64)) (.pair (.sl (.int .i64)) frSh))))
/-- What a walk is told of a run that came in. -/
structure RunIn (w : World) (p s it : Int) (dn : Bool) (A : Option Addr) (n c : Nat) (B : Option Addr) (m d : Nat) (nn : Int) (C : Option Addr) (j k : Nat) (vs ev : List Int) (nx : List Nat) : Prop where
  hp : (Lit.int .i64 p).wf = true
  hs : (Lit.int .i64 s).wf = true
  hi : (Lit.int .i64 it).wf = true
  v : IntsIn w A n c vs
  e : IntsIn w B m d ev
  x : SetIn w nn C k nx
  j : nx.length = j
theorem RdR.job {lo hi : Nat} {w : World} {cs : List Value} {d : jobSh.D} (h : RdR lo hi w jobSh cs d) : ∃ a s : Int, cs = [.int .i64 a, .int .i64 s] ∧ (Lit.int .i64 a).wf = true ∧ (Lit.int .i64 s).wf = true := by
  obtain ⟨c1, c2, e, h1, ⟨hk, hwf⟩, hk2, hwf2⟩ := h
  exact ⟨d.1, d.2, by rw [e, hk, hk2]; rfl, hwf, hwf2⟩
section
variable {H : Type} {enc : TypeId × Value → H} {w : World} {base : Nat} {spare : Nat → Bool} {held : Bool}
theorem Tryz.cellsRun : Tryz.prog.cellsOf 50 = 8 := by kernel_rfl
set_option maxRecDepth 100000 in
theorem opensRun : Opens enc Tryz.prog w base spare held 50 runSh :=
  opens_struct Tryz.underlying50 Tryz.cellsRun (opensF_cons rfl Tryz.cellsJob opensJob (opensF_cons rfl Tryz.cellsVi (opens_int Tryz.underlying3) (opensF_cons rfl Tryz.cellsVb (opens_bool Tryz.underlying4) (opensF_cons rfl Tryz.cellsSI opensNums (opensF_cons rfl Tryz.cellsSI opensNums (opensF_last rfl Tryz.cellsSet opensSet))))))
set_option maxRecDepth 100000 in
theorem open_run {r : Reach} {b0 : Nat} {v : Value} {d : DataW H} {pp : List MemPlace} (hv : Value.okWide Tryz.prog w r b0 50 v) (h : DataW.Trod enc Tryz.prog w base spare held 50 v d pp) :
    ∃ (p s it : Int) (dn : Bool) (A : Option Addr) (n c : Nat) (B : Option Addr) (m d : Nat) (nn : Int) (C : Option Addr) (j k : Nat) (vs ev : List Int) (nx : List Nat), v = .agg #[.int .i64 p, .int .i64 s, .int .i64 it, .bool dn, .slice A n c, .slice B m d, .int .i64 nn, .slice C j k] ∧ RunIn w p s it dn A n c B m d nn C j k vs ev nx := by
  obtain ⟨cs, rfl, _⟩ := Go.WideShapes.okWide_struct Tryz.underlying50 hv
  obtain ⟨fuel, hf⟩ := h
  obtain ⟨x, hx⟩ := opensRun _ _ _ hf
  obtain ⟨c1, r1, e1, h1, hj, hx⟩ := hx
  obtain ⟨c2, r2, e2, h2, ⟨hk2, hw2⟩, hx⟩ := hx
  obtain ⟨c3, r3, e3, h3, hk3, hx⟩ := hx
  obtain ⟨c4, r4, e4, h4, hk4, hx⟩ := hx
  obtain ⟨c5, r5, e5, h5, hk5, hx⟩ := hx
  obtain ⟨a, s, ej, wa, ws⟩ := RdR.job hj
  obtain ⟨A, n, c, vs, ev4, hi4⟩ := RdR.nums hk4 (Nat.le_refl _)
  obtain ⟨B, m, d, evs, ev5, hi5⟩ := RdR.nums hk5 (Nat.le_refl _)
  obtain ⟨c6, c7, e6, h6, ⟨hk6, hw6⟩, hk7⟩ := hx
  obtain ⟨q, e7, hok, hl⟩ := hk7.daty (Nat.le_refl _)
  obtain ⟨C, j, k, nx⟩ := q
  have hk3' : c3 = [.bool x.2.2.1] := hk3
  have hjl := hok.rd.len
  simp only at hjl hl
  subst hjl
  refine ⟨a, s, x.2.1, x.2.2.1, A, n, c, B, m, d, x.2.2.2.2.2.1, C, nx.length, k, vs, evs, nx, ?_, ⟨wa, ws, hw2, hi4, hi5, ⟨hw6, hok.rd, hok.cap, hl⟩, rfl⟩⟩
  have h9 : (Value.agg cs).cells.toList = c1 ++ r1 := e1
  rw [e2, e3, e4, e5, e6, ej, hk2, hk3', ev4, ev5, hk6, e7] at h9
  have h8 : cs.toList = [.int .i64 a, .int .i64 s, .int .i64 x.2.1, .bool x.2.2.1, .slice A n c, .slice B m d, .int .i64 x.2.2.2.2.2.1, .slice C nx.length k] := by simpa [Value.cells] using h9
  cases cs
  simp only at h8
  rw [h8]
end
end Go.Proofs.YtlhcobkncceodaaGreatDoor
namespace Go.Proofs.YtlhcobkncceodaaGreatDoor
open Go.RowKit

theorem szEdges_any (A : Option Addr) (n c : Nat) (left : Int) (w : World) (hn : n ≤ maxLen) (h0 : 0 ≤ left) (h1 : left ≤ 1048576) :
    Calls Tryz.prog 55 #[.slice A n c, .int .i64 left] w fun e w' => e = .returned (.int .i64 (leftG left n)) ∧ w = w' := by
  unfold maxLen at hn
  by_cases h : (n : Int) ≤ left
  · have HV := Lib.hid (leftG_pos h)
    have h2 : 0 ≤ left - (n : Int) := by omega
    go_enter Tryz.func55, Tryz.ntmps55
    go_wp2
    go_ret
    exact ⟨g_int HV.out.symm, rfl⟩
  · have HV := Lib.hid (leftG_neg (n := n) (left := left) (by omega))
    have h2 : left - (n : Int) < 0 := by omega
    go_enter Tryz.func55, Tryz.ntmps55
    go_wp2
    go_ret
    exact ⟨g_int HV.out.symm, rfl⟩
theorem szGraph_any (N : Int) (A : Option Addr) (n c : Nat) (left : Int) (w : World) (hn : n ≤ maxLen) (h0 : 0 ≤ left) (h1 : left ≤ 1048576) :
    Calls Tryz.prog 17 #[.agg #[.int .i64 N, .slice A n c], .int .i64 left] w (GNum w (leftG left n)) := by
  have C := Lib.hid (fun w => szEdges_any A n c left w hn h0 h1)
  by_cases h : (n : Int) ≤ left
  · have h2 : 0 ≤ left - (n : Int) := by omega
    have e1 := leftG_pos h
    rw [e1] at C ⊢
    generalize left - (n : Int) = q at C h2 ⊢
    clear e1 h
    go_enter Tryz.func17, Tryz.ntmps17
    go_wp2_with fail
    refine (C.out _).mono ?_
    rintro e w1 ⟨rfl, rfl⟩
    go_wp2
    go_ret
    exact ⟨rfl, below_a1 _ _⟩
  · have e1 := leftG_neg (n := n) (left := left) (by omega)
    rw [e1] at C ⊢
    clear e1 h
    go_enter Tryz.func17, Tryz.ntmps17
    go_wp2_with fail
    refine (C.out _).mono ?_
    rintro e w1 ⟨rfl, rfl⟩
    go_wp2
    go_ret
    exact ⟨rfl, below_a1 _ _⟩

theorem toEdge_any (e : GE) (w : World) :
    Calls Tryz.prog 97 #[.agg #[.int .i64 e.f, .int .i64 e.t, .int .i64 e.w]] w fun r w' => r = .returned (.agg #[.int .i64 e.f, .int .i64 e.t, .int .i64 e.w]) ∧ Below w.heap.size w w' := by
  go_enter Tryz.func97, Tryz.ntmps97
  go_wp2
  refine bodyPost_ret (v := .agg #[.int .i64 e.f, .int .i64 e.t, .int .i64 e.w]) (by simp [results, Tryz.results97, go_sem]) rfl ⟨rfl, ?_⟩
  repeat (first | exact below_a3 _ _ _ _ | refine Below.setCell ?_ (by simp <;> omega) _)

set_option maxRecDepth 10000 in
set_option maxHeartbeats 1000000 in
theorem toEdges_any (A : Option Addr) (n c : Nat) (es : List GE) (w : World) (hr : SlG w A n es) (hn : n ≤ 2097152) :
    Calls Tryz.prog 58 #[.slice A n c] w (MadeG w es) := by
  obtain ⟨i0, hi, hz0, hz1, hz2⟩ := info_parts Tryz.infoEdge
  have HR := Lib.hid hr
  clear hr
  go_enter Tryz.func58, Tryz.ntmps58
  go_wp2_with (refine wpList_make_full _ rfl (.tmp 6) (.tmp 6) 23 rfl w.heap.size 113 i0 (.agg #[.int .i64 0, .int .i64 0, .int .i64 0]) 3 Tryz.underlying23 hi hz0 hz1 .i64 .i64 _ _ n rfl rfl rfl rfl (by rw [hz2]; omega) (by unfold maxLen; omega) (Nat.le_refl _) ?_; intro w1 hown hg)
  have hb1 : Below w.heap.size w w1 := (Below.refl _ _).grown hg (Nat.le_refl _) (by simp)
  have hown1 : w1.ownsRow w.heap.size 113 3 (.slice (some ⟨w.heap.size, 0, none⟩) n n) n ((es.take 0 ++ List.replicate (n - 0) zeroG).flatMap GE.cells) := by
    have h := hown
    rw [g_rep GE.cells zeroG 3 GE.cells_len (by omega) (Value.agg #[.int .i64 0, .int .i64 0, .int .i64 0]).cells rfl n] at h
    simpa using h
  clear hown hg
  have HO1 := Lib.hid hown1
  have HB1 := Lib.hid hb1
  clear hown1 hb1
  go_loopw [4] (fun i wr => ∃ k : Nat, k ≤ n ∧ i = .int .i64 k ∧ Hid (wr.ownsRow w.heap.size 113 3 (.slice (some ⟨w.heap.size, 0, none⟩) n n) n ((es.take k ++ List.replicate (n - k) zeroG).flatMap GE.cells)) ∧ Hid (Below w.heap.size w wr)) (fun i _ => n - (intOf i).toNat)
  case atStart => exact ⟨0, Nat.zero_le _, rfl, HO1, HB1⟩
  case round =>
    clear HO1 HB1
    obtain ⟨k, hk, rfl, hown, hbel⟩ := hrel
    by_cases hlt : k < n
    · obtain ⟨b, off, e, rfl, hbw, he, c0, c1, c2⟩ := HR.out.at_ hlt
      have c0 := (hbel.out.cell (p := ⟨b, off + k * 3, none⟩) hbw).trans c0
      have c1 := (hbel.out.cell (p := ⟨b, off + k * 3 + 1, none⟩) hbw).trans c1
      have c2 := (hbel.out.cell (p := ⟨b, off + k * 3 + 2, none⟩) hbw).trans c2
      have HC := Lib.hid (toEdge_any e wr)
      have hmk : (es.take k).length = k := by rw [List.length_take, HR.out.len]; omega
      go_wp2_with fail
      refine HC.out.mono ?_
      rintro e1 w2 ⟨rfl, hb2⟩
      have HB2 := Lib.hid hb2
      have hown2 := own_below hown.out hb2
      rw [rep_succ n k hlt] at hown2
      have hq := fun i (hi : i < 3) => (hown2.cellAt (k * 3 + i) (by omega)).trans (flat_get GE.cells 3 GE.cells_len _ k i zeroG (g_get _ _ _ _ hmk) hi)
      have hc0 : w2.cell? ⟨w.heap.size, k * 3, none⟩ = some (.int .i64 0) := hq 0 (by omega)
      have hc1 : w2.cell? ⟨w.heap.size, k * 3 + 1, none⟩ = some (.int .i64 0) := hq 1 (by omega)
      have hc2 : w2.cell? ⟨w.heap.size, k * 3 + 2, none⟩ = some (.int .i64 0) := hq 2 (by omega)
      have hf0 := hown2.frozenAt (k * 3)
      have hf1 := hown2.frozenAt (k * 3 + 1)
      have hf2 := hown2.frozenAt (k * 3 + 2)
      have HL := Lib.hid (g_lay (e := e) hown2 hmk)
      clear hown2 hq hb2
      go_wp2
      go_roundw
      case rel =>
        refine ⟨k + 1, by omega, by go_num, Lib.hid ?_, Lib.hid (((((g_chain hbel.out HB2.out).setCell (Nat.le_refl _) _).setCell (Nat.le_refl _) _).setCell (Nat.le_refl _) _))⟩
        rw [g_take es k e he.out, List.append_assoc]
        exact HL.out.1
      case measure => simp [intOf]; omega
    · obtain rfl : k = n := by omega
      go_wp2
      go_ret
      have hfin := hown.out
      rw [Nat.sub_self, List.replicate_zero, List.append_nil, List.take_of_length_le (by rw [HR.out.len]; exact Nat.le_refl _), ← HR.out.len] at hfin
      refine ⟨some ⟨w.heap.size, 0, none⟩, es.length, ?_, hfin, hbel.out⟩
      rw [HR.out.len]
      rfl
set_option maxHeartbeats 400000 in
theorem toGraph_any (N : Int) (A : Option Addr) (n c : Nat) (es : List GE) (w : World) (hr : SlG w A n es) (hn : n ≤ 2097152) :
    Calls Tryz.prog 20 #[.agg #[.int .i64 N, .slice A n c]] w (MadeGr w N es) := by
  have C := Lib.hid (fun w' (hb : Below w.heap.size w w') => toEdges_any A n c es w' (hr.below hb) hn)
  clear hr
  go_enter Tryz.func20, Tryz.ntmps20
  go_wp2_with fail
  refine (C.out _ ?_).mono ?_
  · repeat (first | exact below_a3 _ _ _ _ | refine Below.setCell ?_ (by simp <;> omega) _)
  · rintro e w1 ⟨A1, c1, rfl, ho1, hb1⟩
    obtain ⟨hc, hf⟩ := bcell hb1
    have hz : w.heap.size + 1 + 1 < w1.heap.size := by have := hb1.size; simp at this; omega
    have HB := Lib.hid hb1
    clear hb1
    go_wp2
    refine bodyPost_ret (v := .agg #[.int .i64 N, .slice A1 es.length c1]) (by simp [results, Tryz.results20, go_sem, hc]) rfl ⟨A1, c1, rfl, ?_, ?_⟩
    · have ho2 := ho1
      rw [World.size_alloc, World.size_alloc, World.size_alloc] at ho2
      refine own_monoG (lo := w.heap.size + 1 + 1 + 1) ?_ (by omega)
      repeat (first | exact ho2 | refine own_lowG ?_ (by simp <;> omega) _)
    · repeat (first | exact g_chain (by repeat (first | exact below_a3 _ _ _ _ | refine Below.setCell ?_ (by simp <;> omega) _)) HB.out | refine Below.setCell ?_ (by simp <;> omega) _)
end Go.Proofs.YtlhcobkncceodaaGreatDoor
namespace Go.Proofs.YtlhcobkncceodaaGreatDoor
open Go.RowKit
set_option linter.unusedVariables false

section
variable (p s it : Int) (dn : Bool) (A : Option Addr) (n c : Nat) (B : Option Addr) (m d : Nat) (nn : Int) (C : Option Addr) (j k : Nat) (vs ev : List Int) (nx : List Nat) (w : World)
theorem szRun_is (hv : vs.length = n) (he : ev.length = m) (hx : nx.length = j) (left : Int) (h1 : n ≤ maxLen) (h2 : m ≤ maxLen) (h3 : j ≤ maxLen) (h0 : 0 ≤ left) (hl : left ≤ 1048576) :
    Calls Tryz.prog 18 #[.agg #[.int .i64 p, .int .i64 s, .int .i64 it, .bool dn, .slice A n c, .slice B m d, .int .i64 nn, .slice C j k], .int .i64 left] w (GNum w (leftG left (n + m + j))) := by
  subst hv he hx
  exact szRun_any ⟨p, s, it, dn, vs, ev, nn, nx⟩ A c B d C k left w h1 h2 h3 h0 hl
theorem toRun_is (hv : SlI w A n vs) (he : SlI w B m ev) (hx : Rd w C j nx) (hk : j ≤ k) (h1 : n ≤ 2097152) (h2 : m ≤ 2097152) (h3 : j ≤ 2097152) :
    Calls Tryz.prog 21 #[.agg #[.int .i64 p, .int .i64 s, .int .i64 it, .bool dn, .slice A n c, .slice B m d, .int .i64 nn, .slice C j k]] w (MadeR w p s it dn n m nn j vs ev nx) := by
  obtain rfl := hv.len
  obtain rfl := he.len
  obtain rfl := hx.len
  refine (toRun_any ⟨p, s, it, dn, vs, ev, nn, nx⟩ A c B d C k w ⟨hv, he, hx⟩ hk h1 h2 h3).mono ?_
  rintro e w' ⟨A1, c1, B1, d1, C1, k1, rfl, ho, hb⟩
  exact ⟨A1, c1, B1, d1, C1, k1, rfl, ⟨ho.v, ho.e, ho.x, ho.ap⟩, hb⟩
theorem eqRun_is (A' : Option Addr) (c' : Nat) (B' : Option Addr) (d' : Nat) (C' : Option Addr) (k' : Nat) (hv : SlI w A n vs) (he : SlI w B m ev) (hx : Rd w C j nx) (hv' : SlI w A' n vs) (he' : SlI w B' m ev) (hx' : Rd w C' j nx) (hk : j ≤ k) (hk' : j ≤ k') (h1 : n ≤ 2097152) (h2 : m ≤ 2097152) (h3 : j ≤ 2097152) :
    Calls Tryz.prog 26 #[.agg #[.int .i64 p, .int .i64 s, .int .i64 it, .bool dn, .slice A n c, .slice B m d, .int .i64 nn, .slice C j k], .agg #[.int .i64 p, .int .i64 s, .int .i64 it, .bool dn, .slice A' n c', .slice B' m d', .int .i64 nn, .slice C' j k']] w (GTell w true) := by
  obtain rfl := hv.len
  obtain rfl := he.len
  obtain rfl := hx.len
  exact eqRun_any ⟨p, s, it, dn, vs, ev, nn, nx⟩ A c B d C k A' c' B' d' C' k' w ⟨hv, he, hx⟩ ⟨hv', he', hx'⟩ hk hk' h1 h2 h3
end
/-- Nothing is written but in blocks from l to h, and new ones. -/
def Wr (l h : Nat) (w w' : World) : Prop := OnlyB (fun g => l ≤ g ∧ g < h) w w'
section
variable {w w' w0 : World} {l h l1 h1 lo e sz n c b : Nat} {A : Option Addr} {xs : List Value} {v : Value}
theorem Wr.of_grown {row : Option Nat} (hg : w.grownBy w' row) (hr : ∀ g, row = some g → l ≤ g ∧ g < h) : Wr l h w w' := (OnlyB.refl _ w).grown hg hr
theorem Wr.of_only {S : Nat → Prop} (ho : OnlyB S w w') (hr : ∀ g, S g → l ≤ g ∧ g < h) : Wr l h w w' := ho.mono hr
theorem Wr.size (hw : Wr l h w w') : w.heap.size ≤ w'.heap.size := OnlyB.size hw
theorem Wr.blk {cs : Array Value} {t : TypeId} (hw : Wr l h w w') (hb : Blk w b cs t) (hd : b < l ∨ h ≤ b) : Blk w' b cs t := hb.keep (OnlyB.block hw b hb.lt (fun hh => by have h1 := hh.1; have h2 := hh.2; omega))
theorem Wr.own (hw : Wr l h w w') (ho : w.ownsRow lo e sz v n xs) (ha : ∀ g, v.ownBlock = some g → l1 ≤ g ∧ g < h1) (hd : h1 ≤ l ∨ h ≤ l1) : w'.ownsRow lo e sz v n xs :=
  OnlyB.own ho hw (fun g hg hh => by have h2 := ha g hg; have h3 := hh.1; have h4 := hh.2; omega)
theorem Wr.orig {base : Nat} (hw : Wr l h w w') (hb : Below base w0 w) (hs : base ≤ w.heap.size) (hl : base ≤ l) : Below base w0 w' := hb.trans (OnlyB.toBelow hw hs (fun k hk => by have h1 := hk.1; omega))
end
/-- Where the rows of a run lie. -/
def RunAt (A : Option Addr) (n c : Nat) (B : Option Addr) (m d : Nat) (C : Option Addr) (j k l h : Nat) : Prop := ∀ g, runBlk A n c B m d C j k g → l ≤ g ∧ g < h
theorem Rows3.at_ {w : World} {lo n c m d j k : Nat} {A B C : Option Addr} {vs ev : List Int} {nx : List Nat} (h : Rows3 w lo A n c B m d C j k vs ev nx) : RunAt A n c B m d C j k lo w.heap.size := by
  rintro g (hg | hg | hg)
  · exact h.v.lt g hg
  · exact h.e.lt g hg
  · exact h.x.lt g hg
theorem Wr.rows {w w' : World} {l h l1 h1 lo n c m d j k : Nat} {A B C : Option Addr} {vs ev : List Int} {nx : List Nat} (hw : Wr l h w w') (hr : Rows3 w lo A n c B m d C j k vs ev nx) (ha : RunAt A n c B m d C j k l1 h1) (hd : h1 ≤ l ∨ h ≤ l1) : Rows3 w' lo A n c B m d C j k vs ev nx :=
  ⟨hw.own hr.v (fun g hg => ha g (.inl hg)) hd, hw.own hr.e (fun g hg => ha g (.inr (.inl hg))) hd, hw.own hr.x (fun g hg => ha g (.inr (.inr hg))) hd, hr.ap⟩
theorem Rows3.cap {w : World} {lo n c m d j k : Nat} {A B C : Option Addr} {vs ev : List Int} {nx : List Nat} (h : Rows3 w lo A n c B m d C j k vs ev nx) : j ≤ k := by
  rcases h.x.2 with ⟨h, h0⟩ | ⟨g, cap, cur, h, _, _, h1, _⟩
  · injection h with _ e1 _
    omega
  · injection h with _ _ e3
    omega
end Go.Proofs.YtlhcobkncceodaaGreatDoor
namespace Go.Proofs.YtlhcobkncceodaaGreatDoor

theorem newVal_in {p x : Int} {es : List VE} (hx : 0 ≤ x ∧ x ≤ 1099511627776) (h : ∀ e ∈ es, e.ok = true) : 0 ≤ newVal p x es ∧ newVal p x es ≤ 1099511627776 := by
  unfold newVal
  split
  · exact addC_lim _ _
  split
  · unfold minAll
    suffices H : ∀ (l : List VE) (y : Int), (∀ e ∈ l, e.ok = true) → 0 ≤ y ∧ y ≤ 1099511627776 → 0 ≤ l.foldl (fun x e => min x e.v) y ∧ l.foldl (fun x e => min x e.v) y ≤ 1099511627776 from H es x h hx
    intro l
    induction l with
    | nil => intro y _ hy; exact hy
    | cons e l ih =>
      intro y hl hy
      rw [List.foldl_cons]
      have h1 := VE.ok_lim (hl e List.mem_cons_self)
      exact ih _ (fun a ha => hl a (List.mem_cons_of_mem _ ha)) (by omega)
  split
  · unfold minPath
    suffices H : ∀ (l : List VE) (y : Int), 0 ≤ y ∧ y ≤ 1099511627776 → 0 ≤ l.foldl pathStep y ∧ l.foldl pathStep y ≤ 1099511627776 from H es x hx
    intro l
    induction l with
    | nil => intro y hy; exact hy
    | cons e l ih =>
      intro y hy
      rw [List.foldl_cons]
      refine ih _ ?_
      unfold pathStep
      have h1 := addC_lim e.v e.w
      split
      · omega
      · exact hy
  · exact mostR_lim (told_lim h) hx
theorem newEdge_in {p x : Int} {n : Nat} {e : VE} (hx : 0 ≤ x ∧ x ≤ 1099511627776) (he : e.ok = true) : 0 ≤ newEdge p x n e ∧ newEdge p x n e ≤ 1099511627776 := by
  have h := VE.ok_lim he
  unfold newEdge
  split
  · split
    · rw [Int.tdiv_eq_ediv_of_nonneg hx.1]
      have h1 := Int.ediv_nonneg (a := x) (b := (n : Int)) hx.1 (by omega)
      have h2 := Int.ediv_le_self (a := x) (n : Int) hx.1
      omega
    · omega
  split
  · omega
  split
  · split
    · exact hx
    · omega
  · exact capF_lim _
/-- A view that bears the edge's new value. -/
def VE.put (e : VE) (p x : Int) (n : Nat) : VE := ⟨e.i, e.o, e.w, newEdge p x n e⟩
end Go.Proofs.YtlhcobkncceodaaGreatDoor
namespace Go.Proofs.YtlhcobkncceodaaGreatDoor
open Go.RowKit

def Lab (p : Int) (S : SD) : Prop := p = 4 → (∀ x ∈ S.vs, 0 ≤ x ∧ x < 1000) ∧ ∀ x ∈ S.ev, 0 ≤ x ∧ x < 1000000
section
variable {p : Int} {N : Nat} {G : List GE} {S : SD}
theorem vstep_is (hG : graphB (N : Int) G = true) (h : Good p N G S) (v : Nat) : Stepped p N G v (edgeNew p G S v) (idxT G v G.length) ⟨S.vs.set v (newAt p G S v), S.ev, S.nx, S.nw⟩ (vstep p N G S v) :=
  fold_step hG v _ _ _ (idx_nodup _ _ _) (fun i hi => by have := (idx_mem.1 hi).1; exact ⟨by simp only; rw [h.el]; exact this, this⟩) h.nx h.nw
theorem newAt_lim (hG : graphB (N : Int) G = true) (h : Good p N G S) {v : Nat} (hv : v < N) : 0 ≤ newAt p G S v ∧ newAt p G S v ≤ 1099511627776 :=
  newVal_in (getD_in h.vv (i := v) (by rw [h.vl]; exact hv)) (views_ok hG h v)
theorem ev_all {l : List Int} {P : Int → Prop} (h : ∀ i, i < l.length → P (l.getD i 0)) : ∀ x ∈ l, P x := fun x hx => by
  obtain ⟨i, hi, rfl⟩ := List.getElem_of_mem hx
  have := h i hi
  rwa [List.getD_eq_getElem?_getD, List.getElem?_eq_getElem hi] at this
theorem vstep_good (hG : graphB (N : Int) G = true) (h : Good p N G S) {v : Nat} (hv : v < N) : Good p N G (vstep p N G S v) := by
  have T := vstep_is hG h v
  have hn := newAt_lim hG h hv
  refine ⟨by rw [T.vs]; simp [h.vl], by rw [T.el]; exact h.el, by rw [T.vs]; exact set_all h.vv v hn, ev_all (fun i hi => ?_), T.nx, T.nw, T.nxs h.nxs, T.nws h.nws⟩
  rw [T.ev i]
  split
  · rename_i hi2
    exact newEdge_in hn (view_ok hG h hi2)
  · exact getD_in h.ee (by rw [T.el] at hi; exact hi)
/-! ### an iteration -/
theorem pass_good (hG : graphB (N : Int) G = true) (h : Good p N G S) : ∀ k, k ≤ N → Good p N G (pass p N G S k)
  | 0, _ => h
  | k + 1, hk => by
    have h1 := pass_good hG h k (by omega)
    unfold pass
    split
    · exact vstep_good hG h1 (by omega)
    · exact h1
end
end Go.Proofs.YtlhcobkncceodaaGreatDoor
namespace Go.Proofs.YtlhcobkncceodaaGreatDoor
open Go.RowKit

/-! ### first values -/
/-! ### sets of vertices -/
theorem newX_is {N : Nat} (hN : N ≤ 150) (all : Bool) : newX (N : Int) all = fillV (bytesN N) (if all then N else 0) := by
  unfold newX newB
  rw [if_pos (by simp; omega), Int.toNat_natCast]
theorem newX_ok {N : Nat} (hN : N ≤ 150) (all : Bool) : setB (N : Int) (newX (N : Int) all) = true := by
  rw [newX_is hN]
  exact setB_fill hN (by split <;> omega)
/-! ### a run -/
structure RunP (N : Nat) (G : List GE) (r : RD) : Prop where
  g : graphB (N : Int) G = true
  j : jobB (N : Int) r.p r.s = true
  i : 0 ≤ r.it ∧ r.it ≤ 1000
  vl : r.vs.length = N
  el : r.ev.length = G.length
  vv : ∀ x ∈ r.vs, 0 ≤ x ∧ x ≤ 1099511627776
  ee : ∀ x ∈ r.ev, 0 ≤ x ∧ x ≤ 1099511627776
  nx : setB (N : Int) r.nx = true
  nn : r.nn = (N : Int)
  dn : r.dn = decide ((memsB (N : Int) r.nx).length = 0)
theorem vals_iff {l : List Int} : valsB l = true ↔ ∀ x ∈ l, 0 ≤ x ∧ x ≤ 1099511627776 := by
  unfold valsB valB
  rw [List.all_eq_true]
  constructor
  · intro h x hx; simpa using h x hx
  · intro h x hx; simpa using h x hx
theorem runB_iff {N : Nat} {G : List GE} {r : RD} : runB (N : Int) G r = true ↔ RunP N G r := by
  unfold runB
  simp only [Bool.and_eq_true, decide_eq_true_eq, beq_iff_eq, vals_iff]
  constructor
  · rintro ⟨h1, h2, h3, ⟨h4, h5⟩, h6, h7, h8, h9, h10⟩
    rw [h9] at h8 h10
    exact ⟨h1, h2, h3, by omega, h5, h6, h7, h8, h9, h10⟩
  · rintro ⟨h1, h2, h3, h4, h5, h6, h7, h8, h9, h10⟩
    rw [h9]
    exact ⟨h1, h2, h3, ⟨by omega, h5⟩, h6, h7, h8, rfl, h10⟩
theorem RunP.prog {N : Nat} {G : List GE} {r : RD} (h : RunP N G r) : 1 ≤ r.p ∧ r.p ≤ 4 := by
  have h1 := h.j
  unfold jobB progB at h1
  simp only [Bool.and_eq_true, decide_eq_true_eq] at h1
  exact h1.1
theorem RunP.n150 {N : Nat} {G : List GE} {r : RD} (h : RunP N G r) : N ≤ 150 := by have := graphB_iff h.g; omega
/-- The bytes of the set are bytes. -/
def SmallR (r : RD) : Prop := ∀ x ∈ r.nx, x < 256
section
variable {N : Nat} {G : List GE} {r : RD}
theorem start_good (h : RunP N G r) (hs : SmallR r) : Good r.p N G (startS (N : Int) r) :=
  ⟨h.vl, h.el, h.vv, h.ee, newX_ok h.n150 false, h.nx, newX_small _ _, hs⟩
theorem iter_run (h : RunP N G r) (hs : SmallR r) (hi : r.it ≠ 1000) : RunP N G (iterR (N : Int) G r) ∧ SmallR (iterR (N : Int) G r) := by
  have hg := pass_good h.g (start_good h hs) N (Nat.le_refl _)
  have h1 := h.i
  refine ⟨⟨h.g, h.j, ?_, ?_, ?_, ?_, ?_, ?_, rfl, ?_⟩, ?_⟩
  · show 0 ≤ r.it + 1 ∧ r.it + 1 ≤ 1000
    omega
  · show (pass r.p (N : Int) G (startS (N : Int) r) (N : Int).toNat).vs.length = N
    rw [Int.toNat_natCast]; exact hg.vl
  · show (pass r.p (N : Int) G (startS (N : Int) r) (N : Int).toNat).ev.length = G.length
    rw [Int.toNat_natCast]; exact hg.el
  · show ∀ x ∈ (pass r.p (N : Int) G (startS (N : Int) r) (N : Int).toNat).vs, _
    rw [Int.toNat_natCast]; exact hg.vv
  · show ∀ x ∈ (pass r.p (N : Int) G (startS (N : Int) r) (N : Int).toNat).ev, _
    rw [Int.toNat_natCast]; exact hg.ee
  · show setB (N : Int) (pass r.p (N : Int) G (startS (N : Int) r) (N : Int).toNat).nx = true
    rw [Int.toNat_natCast]; exact hg.nx
  · rfl
  · show ∀ x ∈ (pass r.p (N : Int) G (startS (N : Int) r) (N : Int).toNat).nx, x < 256
    rw [Int.toNat_natCast]; exact hg.nxs
theorem iterB_iff : iterB (N : Int) G r = true ↔ RunP N G r ∧ r.dn = false ∧ r.it ≠ 1000 := by
  unfold iterB
  rw [Bool.and_eq_true, Bool.and_eq_true, runB_iff, decide_eq_true_iff]
  simp
theorem all_run : ∀ (k : Nat) (r : RD), RunP N G r → SmallR r → RunP N G (allR (N : Int) G r k) ∧ SmallR (allR (N : Int) G r k)
  | 0, _, h, hs => ⟨h, hs⟩
  | k + 1, r, h, hs => by
    unfold allR
    cases hb : iterB (N : Int) G r with
    | true =>
      obtain ⟨h1, h2⟩ := iter_run h hs (iterB_iff.1 hb).2.2
      simpa using all_run k _ h1 h2
    | false => simpa using ⟨h, hs⟩
theorem all_stop (N : Int) (G : List GE) {r : RD} (h : iterB N G r = false) : ∀ k, allR N G r k = r
  | 0 => rfl
  | k + 1 => by unfold allR; rw [h]; rfl
/-- In two parts, or at once. -/
theorem all_add (N : Int) (G : List GE) (b : Nat) : ∀ (a : Nat) (r : RD), allR N G r (a + b) = allR N G (allR N G r a) b
  | 0, r => by rw [Nat.zero_add]; rfl
  | a + 1, r => by
    rw [show a + 1 + b = (a + b) + 1 by omega]
    cases h : iterB N G r with
    | true =>
      have e1 : ∀ k, allR N G r (k + 1) = allR N G (iterR N G r) k := fun k => by conv => lhs; unfold allR; rw [h, if_pos rfl]
      rw [e1, e1]
      exact all_add N G b a _
    | false => rw [all_stop N G h, all_stop N G h, all_stop N G h]
end
end Go.Proofs.YtlhcobkncceodaaGreatDoor
namespace Go.Proofs.YtlhcobkncceodaaGreatDoor
open Go.RowKit
set_option linter.unusedVariables false

def noRun : RD := ⟨0, 0, 0, false, [], [], 0, []⟩
def iterO (N : Int) (G : List GE) (r : RD) : RD := if iterB N G r then iterR N G r else noRun
def allO (N : Int) (G : List GE) (r : RD) (k : Nat) : RD := if runB N G r then allR N G r k else noRun
/-- A new run, and a truth value. -/
def MadeRB (w : World) (r : RD) (b : Bool) (e : Ending) (w' : World) : Prop :=
  ∃ A c B d C k, e = .returned (.tuple #[.agg #[.int .i64 r.p, .int .i64 r.s, .int .i64 r.it, .bool r.dn, .slice A r.vs.length c, .slice B r.ev.length d, .int .i64 r.nn, .slice C r.nx.length k], .bool b]) ∧ Rows3 w' w.heap.size A r.vs.length c B r.ev.length d C r.nx.length k r.vs r.ev r.nx ∧ Below w.heap.size w w'
theorem nil_rows (w : World) (lo : Nat) : Rows3 w lo none 0 0 none 0 0 none 0 0 [] [] [] := ⟨World.ownsRow_nil _ _ _ _, World.ownsRow_nil _ _ _ _, ⟨rfl, .inl ⟨rfl, rfl⟩⟩, .inl rfl⟩
theorem MadeRB.no {w w' : World} (h : Below w.heap.size w w') : MadeRB w noRun false (.returned (.tuple #[.agg #[.int .i64 0, .int .i64 0, .int .i64 0, .bool false, .slice none 0 0, .slice none 0 0, .int .i64 0, .slice none 0 0], .bool false])) w' := ⟨none, 0, none, 0, none, 0, rfl, nil_rows _ _, h⟩
/-- A new run. -/
def MadeRO (w : World) (r : RD) (e : Ending) (w' : World) : Prop :=
  ∃ A c B d C k, e = .returned (.agg #[.int .i64 r.p, .int .i64 r.s, .int .i64 r.it, .bool r.dn, .slice A r.vs.length c, .slice B r.ev.length d, .int .i64 r.nn, .slice C r.nx.length k]) ∧ Rows3 w' w.heap.size A r.vs.length c B r.ev.length d C r.nx.length k r.vs r.ev r.nx ∧ Below w.heap.size w w'
theorem MadeRO.no {w w' : World} (h : Below w.heap.size w w') : MadeRO w noRun (.returned (.agg #[.int .i64 0, .int .i64 0, .int .i64 0, .bool false, .slice none 0 0, .slice none 0 0, .int .i64 0, .slice none 0 0])) w' := ⟨none, 0, none, 0, none, 0, rfl, nil_rows _ _, h⟩
theorem iterB_no {N : Int} {G : List GE} {r : RD} (h : runB N G r = false) : iterB N G r = false := by unfold iterB; rw [h]; rfl
theorem iterB_over {N : Int} {G : List GE} {r : RD} (h : runB N G r = true) : iterB N G r = !(r.dn || decide (r.it = 1000)) := by
  unfold iterB
  rw [h]
  cases r.dn <;> simp
/-! ### as often as asked -/
theorem run_step {N : Nat} {G : List GE} {r : RD} (hr : RunP N G r) (hs : SmallR r) (q : Nat) : allR (N : Int) G r (q + 1) = if (allR (N : Int) G r q).dn || decide ((allR (N : Int) G r q).it = 1000) then allR (N : Int) G r q else iterR (N : Int) G (allR (N : Int) G r q) := by
  rw [all_add (N : Int) G 1 q r]
  have h1 := (all_run q r hr hs).1
  have h2 := iterB_over (runB_iff.2 h1)
  show (if iterB (N : Int) G (allR (N : Int) G r q) then allR (N : Int) G (iterR (N : Int) G (allR (N : Int) G r q)) 0 else allR (N : Int) G r q) = _
  rw [h2]
  cases (allR (N : Int) G r q).dn || decide ((allR (N : Int) G r q).it = 1000) <;> simp [allR]
theorem run_over {N : Nat} {G : List GE} {r : RD} (hr : RunP N G r) (hs : SmallR r) {q k : Nat} (hq : q ≤ k) (ho : ((allR (N : Int) G r q).dn || decide ((allR (N : Int) G r q).it = 1000)) = true) : allR (N : Int) G r k = allR (N : Int) G r q := by
  obtain ⟨z, rfl⟩ : ∃ z, k = q + z := ⟨k - q, by omega⟩
  rw [all_add (N : Int) G z q r]
  refine all_stop (N : Int) G ?_ z
  rw [iterB_over (runB_iff.2 (all_run q r hr hs).1), ho]
  rfl
theorem run_count {N : Nat} {G : List GE} {r : RD} (hr : RunP N G r) (hs : SmallR r) : ∀ q : Nat, (∀ z, z < q → ((allR (N : Int) G r z).dn || decide ((allR (N : Int) G r z).it = 1000)) = false) → (allR (N : Int) G r q).it = r.it + q
  | 0, _ => by simp [allR]
  | q + 1, h => by
    rw [run_step hr hs q, h q (by omega)]
    simp only [Bool.false_eq_true, if_false]
    show (allR (N : Int) G r q).it + 1 = _
    rw [run_count hr hs q (fun z hz => h z (by omega))]
    omega
end Go.Proofs.YtlhcobkncceodaaGreatDoor
namespace Go.Proofs.YtlhcobkncceodaaGreatDoor
open Go.RowKit
set_option linter.unusedVariables false

end Go.Proofs.YtlhcobkncceodaaGreatDoor
namespace Go.Proofs.YtlhcobkncceodaaGreatDoor
open Go.RowKit

def LimR (r : RD) : Prop := SmallR r ∧ r.vs.length ≤ 1048576 ∧ r.ev.length ≤ 1048576 ∧ r.nx.length ≤ 1048576
theorem lim_no : LimR noRun := ⟨fun x hx => (by cases hx), Nat.zero_le _, Nat.zero_le _, Nat.zero_le _⟩
theorem lim_run {N : Nat} {G : List GE} {r : RD} (h : RunP N G r) (hs : SmallR r) : LimR r := by
  have h1 := h.vl
  have h2 := h.el
  have h3 := (setB_dim h.nx).2.2
  have h4 := graphB_iff h.g
  simp only [Int.toNat_natCast] at h3
  unfold bytesN at h3
  exact ⟨hs, by omega, by omega, by omega⟩
theorem runB_nat {N : Int} {G : List GE} {r : RD} (h : runB N G r = true) : ∃ q : Nat, N = (q : Int) := ⟨N.toNat, by
  unfold runB at h
  simp only [Bool.and_eq_true] at h
  have := graphB_iff h.1
  omega⟩
theorem lim_iter (N : Int) (G : List GE) (r : RD) (hs : SmallR r) : LimR (iterO N G r) := by
  unfold iterO
  cases h : iterB N G r with
  | false => rw [if_neg (by simp)]; exact lim_no
  | true =>
    rw [if_pos rfl]
    have hr : runB N G r = true := by
      cases h2 : runB N G r with
      | true => rfl
      | false => rw [iterB_no h2] at h; cases h
    obtain ⟨q, rfl⟩ := runB_nat hr
    have h3 := iterB_iff.1 h
    have h4 := iter_run h3.1 hs h3.2.2
    exact lim_run h4.1 h4.2
theorem lim_all (N : Int) (G : List GE) (r : RD) (k : Nat) (hs : SmallR r) : LimR (allO N G r k) := by
  unfold allO
  cases h : runB N G r with
  | false => rw [if_neg (by simp)]; exact lim_no
  | true =>
    rw [if_pos rfl]
    obtain ⟨q, rfl⟩ := runB_nat h
    have h4 := all_run k r (runB_iff.1 h) hs
    exact lim_run h4.1 h4.2
end Go.Proofs.YtlhcobkncceodaaGreatDoor
namespace Go.Proofs.YtlhcobkncceodaaGreatDoor
open Go.ChangeShapes Go.WideShapes Go.ChangeAt Go.RowKit
set_option linter.unusedVariables false

def wtZ : List Int := [1, 2, 4, 8, 16, 32, 64, 128]
def wtV : Array Value := #[.int .u8 1, .int .u8 2, .int .u8 4, .int .u8 8, .int .u8 16, .int .u8 32, .int .u8 64, .int .u8 128]
theorem weights_data : [("loop.example/g00671/impl.weights", (Rows.laid_loop_example_g00671_impl_weights : DataW Unit))] = [("loop.example/g00671/impl.weights", (Lib.tabData .u8 wtZ : DataW Unit))] := by kernel_rfl
theorem weights_name : Tryz.prog.globalNamed "loop.example/g00671/impl.weights" = some 0 := by kernel_rfl
theorem weights_type : (Tryz.prog.globals[0]?).map (·.type) = some 140 := by kernel_rfl
theorem weights_var {W : World} (h : laidMet Tryz.prog [("loop.example/g00671/impl.weights", (Lib.tabData .u8 wtZ : DataW Unit))] W) : W.var? Tryz.prog "loop.example/g00671/impl.weights" = some wtV :=
  Lib.tabIs_of_head (g := 0) (t := 140) (e := 5) (n := 8) weights_name weights_type Tryz.underlying140 Tryz.underlying5 (by kernel_rfl) (by kernel_rfl) h
/-- How it reads, whatever the memory. -/
abbrev wtH {H : Type} : DataW H := Rows.laid_loop_example_g00671_impl_weights
theorem weights_reads {H : Type} (enc : TypeId × Value → H) (W : World) (sp : Nat → Bool) : DataW.trod enc Tryz.prog W 0 sp true 3 140 wtV.toList = some (wtH, []) := by kernel_rfl
theorem weights_trod {H : Type} (enc : TypeId × Value → H) {W : World} (h : W.var? Tryz.prog "loop.example/g00671/impl.weights" = some wtV) (sp : Nat → Bool) :
    DataW.TrodVars enc Tryz.prog W sp ["loop.example/g00671/impl.weights"] [wtH] (MemPlace.row ⟨0, 0, none⟩ wtV.size ++ []) :=
  trodVars_mk1 weights_name weights_type h (weights_reads enc W sp)
theorem weights_met {W : World} (h : W.var? Tryz.prog "loop.example/g00671/impl.weights" = some wtV) : Wts W := by
  have hc : ∀ i, i < 8 → W.cell? ⟨0, i, none⟩ = some (.int .u8 ((2 ^ i : Nat) : Int)) := by
    intro i hi
    have h0 := World.var?_cell weights_name h i
    rw [h0]
    have : i = 0 ∨ i = 1 ∨ i = 2 ∨ i = 3 ∨ i = 4 ∨ i = 5 ∨ i = 6 ∨ i = 7 := by omega
    rcases this with rfl | rfl | rfl | rfl | rfl | rfl | rfl | rfl <;> rfl
  exact ⟨World.block_lt_of_cell? W _ (hc 0 (by omega)), hc⟩
theorem weights_below {W W' : World} (h : W.var? Tryz.prog "loop.example/g00671/impl.weights" = some wtV) (hb : Below W.heap.size W W') : W'.var? Tryz.prog "loop.example/g00671/impl.weights" = some wtV := by
  have hl := (weights_met h).lt
  unfold World.var? at h ⊢
  rw [weights_name, Option.bind_some] at h ⊢
  rw [hb.block _ hl]
  exact h
end Go.Proofs.YtlhcobkncceodaaGreatDoor
namespace Go.Proofs.YtlhcobkncceodaaGreatDoor
open Go.RowKit

theorem lab_reads (w : World) (u : Value) (t : TypeId) (g : Nat) (hg : g = w.heap.size) : Reads (w.alloc (.cells #[u] t)) (g + 1) 1 (some ⟨g, 0, none⟩) 1 [u] := by
  subst hg
  refine ⟨rfl, fun _ => ⟨_, rfl, by simp, fun j x hj => ?_⟩⟩
  match j, hj with
  | 0, hj => simp at hj; subst hj; simp [Addr.add]
theorem lab_built (w : World) : (w.alloc (.cells #[] 3)).ownsRow w.heap.size 3 1 (.slice (some ⟨w.heap.size, 0, none⟩) 0 0) 0 [] :=
  World.ownsRow_lit w #[] 0 (Nat.le_refl _) (by unfold maxLen; omega) rfl
theorem lab_form {w : World} {base e size n : Nat} {v : Value} {xs : List Value} (h : w.ownsRow base e size v n xs) : ∃ A c, v = .slice A n c := by
  rcases h.2 with ⟨rfl, rfl⟩ | ⟨g, cap, _, rfl, _⟩
  · exact ⟨_, _, rfl⟩
  · exact ⟨_, _, rfl⟩
theorem lab_one (x : Int) : ∀ u ∈ [Value.int .i64 x], u.oneCell' = true := by
  intro u hu
  simp at hu
  subst hu
  rfl
theorem lab_snoc (xs : List Int) (x : Int) : vi (xs ++ [x]) = vi xs ++ [.int .i64 x] := by rw [vi_append]; rfl
theorem lab_ne {w : World} {lo e size n b : Nat} {v : Value} {xs : List Value} (h : w.ownsRow lo e size v n xs) (hb : w.heap.size ≤ b) : v.ownBlock ≠ some b := fun e => by have := (h.lt b e).2; omega
theorem lab_below {w W W' : World} {lo e size n : Nat} {v : Value} {xs : List Value} (hb : Below lo w W) (ho : W.ownsRow lo e size v n xs) (hs : lo ≤ W.heap.size) (hg : W.grownBy W' v.ownBlock) : Below lo w W' :=
  hb.grown hg hs (fun k hk => (ho.lt k hk).1)
/-- New numbers. -/
def MadeZ (w : World) (xs : List Int) (e : Ending) (w' : World) : Prop :=
  ∃ A c, e = .returned (.slice A xs.length c) ∧ w'.ownsRow w.heap.size 3 1 (.slice A xs.length c) xs.length (vi xs) ∧ Below w.heap.size w w'
end Go.Proofs.YtlhcobkncceodaaGreatDoor
namespace Go.Proofs.YtlhcobkncceodaaGreatDoor
open Go.RowKit

/-- A block of two cells that may be written. -/
structure DBox (w : World) (b : Nat) (v0 v1 : Value) : Prop where
  lt : b < w.heap.size
  c0 : w.cell? ⟨b, 0, none⟩ = some v0
  c1 : w.cell? ⟨b, 1, none⟩ = some v1
  f : ∀ i, w.frozen? ⟨b, i, none⟩ = false
section
variable {w w' : World} {b : Nat} {v0 v1 : Value}
theorem DBox.keep (h : DBox w b v0 v1) (hs : w.heap.size ≤ w'.heap.size) (hk : w'.heap[b]? = w.heap[b]?) : DBox w' b v0 v1 :=
  ⟨Nat.lt_of_lt_of_le h.lt hs, (World.cell?_of_block (a := ⟨b, 0, none⟩) hk).trans h.c0, (World.cell?_of_block (a := ⟨b, 1, none⟩) hk).trans h.c1, fun i => (World.frozen?_of_block (a := ⟨b, i, none⟩) hk).trans (h.f i)⟩
theorem DBox.below (h : DBox w b v0 v1) (hb : Below w.heap.size w w') : DBox w' b v0 v1 := h.keep hb.size (hb.block b h.lt)
theorem DBox.grown {row : Option Nat} (h : DBox w b v0 v1) (hg : w.grownBy w' row) (hr : row ≠ some b) : DBox w' b v0 v1 := h.keep hg.size (hg.block b h.lt (fun e => hr e.symm))
theorem DBox.new (w : World) (v0 v1 : Value) (t : TypeId) : DBox (w.alloc (.cells #[v0, v1] t)) w.heap.size v0 v1 := ⟨by simp, by simp, by simp, fun i => by simp⟩
theorem DBox.alloc (h : DBox w b v0 v1) (o : Obj) : DBox (w.alloc o) b v0 v1 := h.below (below_a1 w o)
theorem DBox.drew (h : DBox w b v0 v1) : DBox w.drew b v0 v1 := ⟨h.lt, h.c0, h.c1, h.f⟩
end

theorem own_formG {w : World} {base e size n : Nat} {v : Value} {xs : List Value} (h : w.ownsRow base e size v n xs) : ∃ A c, v = .slice A n c ∧ n ≤ c := by
  rcases h.2 with ⟨rfl, rfl⟩ | ⟨g, cap, _, rfl, _, _, hc, _⟩
  · exact ⟨_, _, rfl, Nat.le_refl _⟩
  · exact ⟨_, _, rfl, hc⟩
end Go.Proofs.YtlhcobkncceodaaGreatDoor
namespace Go.Proofs.YtlhcobkncceodaaGreatDoor
open Go.RowKit
set_option linter.unusedVariables false

def zI (l : List Nat) : List Int := l.map fun i : Nat => (i : Int)
theorem zI_snoc (l : List Nat) (k : Nat) : vi (zI (l ++ [k])) = vi (zI l) ++ [.int .i64 (k : Int)] := by unfold zI vi; simp
theorem zI_get {l : List Nat} {i k : Nat} (h : l[i]? = some k) : (zI l)[i]? = some (k : Int) := by unfold zI; rw [List.getElem?_map, h]; rfl
theorem vw_reads (w : World) (e : VE) (t : TypeId) (g : Nat) (hg : g = w.heap.size) : Reads (w.alloc (.cells #[.bool e.i, .bool e.o, .int .i64 e.w, .int .i64 e.v] t)) (g + 1) 4 (some ⟨g, 0, none⟩) 1 (VE.cells e) := by
  subst hg
  refine ⟨rfl, fun _ => ⟨_, rfl, by simp, fun j v hj => ?_⟩⟩
  match j, hj with
  | 0, hj => simp [VE.cells] at hj; subst hj; simp [Addr.add]
  | 1, hj => simp [VE.cells] at hj; subst hj; simp [Addr.add]
  | 2, hj => simp [VE.cells] at hj; subst hj; simp [Addr.add]
  | 3, hj => simp [VE.cells] at hj; subst hj; simp [Addr.add]
/-- New views, and new places. -/
def MadeVI (w : World) (es : List VE) (is : List Nat) (e : Ending) (w' : World) : Prop :=
  ∃ A c A' c', e = .returned (.tuple #[.slice A is.length c, .slice A' is.length c']) ∧ w'.ownsRow w.heap.size 93 4 (.slice A is.length c) is.length (es.flatMap VE.cells) ∧ w'.ownsRow w.heap.size 3 1 (.slice A' is.length c') is.length (vi (zI is)) ∧ Below w.heap.size w w'
/-- While they are gathered. -/
structure VSt (w wr : World) (A1 : Option Addr) (c1 : Nat) (A2 : Option Addr) (c2 : Nat) (es : List VE) (is : List Nat) : Prop where
  v : wr.ownsRow w.heap.size 93 4 (.slice A1 is.length c1) is.length (es.flatMap VE.cells)
  i : wr.ownsRow w.heap.size 3 1 (.slice A2 is.length c2) is.length (vi (zI is))
  h : Below w.heap.size w wr
section
variable {w wr w5 : World} {A1 A2 : Option Addr} {c1 c2 : Nat} {es : List VE} {is : List Nat}
theorem VSt.below (h : VSt w wr A1 c1 A2 c2 es is) (hb : Below wr.heap.size wr w5) : VSt w w5 A1 c1 A2 c2 es is := ⟨own_below h.v hb, own_below h.i hb, g_chain h.h hb⟩
theorem VSt.alloc (h : VSt w wr A1 c1 A2 c2 es is) (o : Obj) : VSt w (wr.alloc o) A1 c1 A2 c2 es is := h.below (below_a1 wr o)
theorem VSt.drewN (h : VSt w wr A1 c1 A2 c2 es is) (q : Nat) : VSt w (wr.drewN q) A1 c1 A2 c2 es is := ⟨own_drewN h.v q, own_drewN h.i q, below_drewN h.h q⟩
theorem VSt.drew (h : VSt w wr A1 c1 A2 c2 es is) : VSt w wr.drew A1 c1 A2 c2 es is := ⟨h.v, h.i, h.h.drew⟩
/-- A view is appended. -/
theorem VSt.gotV (h : VSt w wr A1 c1 A2 c2 es is) {o : Obj} {e : VE} {P : Option Addr} {cp : Nat} (hg : (wr.alloc o).grownBy w5 (Value.slice A1 is.length c1).ownBlock) (ho : w5.ownsRow w.heap.size 93 4 (.slice P (is.length + 1) cp) (is.length + 1) (es.flatMap VE.cells ++ e.cells)) :
    w5.ownsRow w.heap.size 93 4 (.slice P (is.length + 1) cp) (is.length + 1) ((es ++ [e]).flatMap VE.cells) ∧ w5.ownsRow w.heap.size 3 1 (.slice A2 is.length c2) is.length (vi (zI is)) ∧ Below w.heap.size w w5 := by
  have ha := h.alloc o
  refine ⟨by rw [flat_snoc]; exact ho, ha.i.kept hg ((own_types ha.i ha.v (by decide)).imp id fun h e => h e.symm), ha.h.grown hg ha.h.size (fun k hk => (ha.v.lt k hk).1)⟩
/-- And its place. -/
theorem VSt.gotI {lv : Nat} {fs : List VE} (hv : wr.ownsRow w.heap.size 93 4 (.slice A1 lv c1) lv (fs.flatMap VE.cells)) (hi : wr.ownsRow w.heap.size 3 1 (.slice A2 is.length c2) is.length (vi (zI is))) (hb : Below w.heap.size w wr) (hl : lv = is.length + 1) {o : Obj} {k : Nat} {P : Option Addr} {cp : Nat} (hg : (wr.alloc o).grownBy w5 (Value.slice A2 is.length c2).ownBlock) (ho : w5.ownsRow w.heap.size 3 1 (.slice P (is.length + 1) cp) (is.length + 1) (vi (zI is) ++ [.int .i64 (k : Int)])) :
    VSt w w5 A1 c1 P cp fs (is ++ [k]) := by
  have hv1 := own_below hv (below_a1 wr o)
  have hi1 := own_below hi (below_a1 wr o)
  have hb1 := g_chain hb (below_a1 wr o)
  subst hl
  refine ⟨?_, ?_, hb1.grown hg hb1.size (fun q hq => (hi1.lt q hq).1)⟩
  · rw [List.length_append]; exact hv1.kept hg ((own_types hv1 hi1 (by decide)).imp id fun h e => h e.symm)
  · rw [List.length_append, zI_snoc]; exact ho
end
theorem idx_yes {G : List GE} {v : Int} {k : Nat} {e : GE} (he : G[k]? = some e) (h : e.f = v ∨ e.t = v) : idxT G v (k + 1) = idxT G v k ++ [k] := by
  rw [idx_step, if_pos]
  unfold incB edgeAt
  rw [List.getD_eq_getElem?_getD, he]
  simpa using h
theorem idx_no {G : List GE} {v : Int} {k : Nat} {e : GE} (he : G[k]? = some e) (h1 : e.f ≠ v) (h2 : e.t ≠ v) : idxT G v (k + 1) = idxT G v k := by
  rw [idx_step, if_neg]
  unfold incB edgeAt
  rw [List.getD_eq_getElem?_getD, he]
  simp [h1, h2]
theorem viewAt_is {G : List GE} {E : List Int} {v : Int} {k : Nat} {e : GE} {x : Int} (he : G[k]? = some e) (hx : E[k]? = some x) : viewAt G E v k = ⟨decide (e.t = v), decide (e.f = v), e.w, x⟩ := by
  unfold viewAt viewE edgeAt
  rw [List.getD_eq_getElem?_getD, he, List.getD_eq_getElem?_getD, hx]
  rfl
end Go.Proofs.YtlhcobkncceodaaGreatDoor
