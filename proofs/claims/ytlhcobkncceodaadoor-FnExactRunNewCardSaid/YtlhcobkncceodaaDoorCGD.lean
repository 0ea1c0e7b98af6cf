/- Edges, graphs and numbers: the contracts of the laws' helpers that measure and copy. Condition: at most 2^21 of each. // Runs as the laws' walks take them: the laws' helpers in plain words of rows and lengths; what stays where marks are left (conditions: at most 2^20 numbers and bytes). // What an update gives lies in the limits; an update done twice is done once (data only; no condition). // One vertex, one iteration: what stays valid; a vertex that is not to be updated is stable (data only; no condition). // A new run, an iteration, many iterations as data: what is valid stays valid; in two parts or at once; a finished run does not change (data only; no condition). // What RunIter and RunAll answer, as data, and what they leave in memory (plain lemmas; no condition). // What stands while a new run is made, and what it is, as data (plain lemmas; no condition). // How long the lists of a run that is answered are (plain lemmas; no condition). // The table of the weights as a row lists it: what the listed datum says of memory; it reads as before where nothing old is written. // Lists of numbers of a call's own: small words (plain lemmas over the model; no condition). // A block of two writable cells, what grows while one block is written, a new record that reads (plain lemmas over the model; no condition). // The views that a vertex of a run has, and where they stand, in memory: two lists of the call's own (plain lemmas over the model; no condition). // What stands while a vertex of a run is updated: the run in its block, its rows, the bits of the present set; all of it the call's own (plain lemmas over the model; no condition). // What stands while a run is iterated in place, and what an iteration writes (plain lemmas over the model; no condition). // What stands while the model updates a vertex of a run: the run's block and the present set's block of its own, whose bits are made anew (plain lemmas over the model; no condition). // What stands while the model iterates a run: a run in a block, the present set in a block, whose rows are made anew by each vertex (plain lemmas over the model; no condition). // The contracts of the program's AddCap, isVertex, isValue and of the model's like ones. No condition. // Storing a function value or none into a cell (plain lemmas over the model; no condition). // The contracts of the program's programOf (what a number's program is made of) and of its small functions. No condition but that a divisor is not 0. -/
import Derived.Test.YtlhcobkncceodaaDoorCGA
import Derived.Test.YtlhcobkncceodaaDoorCGC
import Derived.Test.YtlhcobkncceodaaDoorCGB
import Derived.Test.YtlhcobkncceodaaDoorRows
import Derived.WalkKit
import Derived.ProofKit
import Derived.LaidMore
import Derived.Lay
import Derived.OpenShut
import Derived.ChangeVars
import Derived.Lib.LaidTab
import Derived.Deep.DeepCutAuto
import Derived.Deep.WholeRow
import Derived.Laws.Tables
namespace Go.Proofs.YtlhcobkncceodaaDoor
open Go.RowKit

theorem szEdges_any (A : Option Addr) (n c : Nat) (left : Int) (w : World) (hn : n ≤ maxLen) (h0 : 0 ≤ left) (h1 : left ≤ 1048576) :
    Calls Tryd.prog 19 #[.slice A n c, .int .i64 left] w fun e w' => e = .returned (.int .i64 (leftG left n)) ∧ w = w' := by
  unfold maxLen at hn
  by_cases h : (n : Int) ≤ left
  · have HV := Lib.hid (leftG_pos h)
    have h2 : 0 ≤ left - (n : Int) := by omega
    go_enter Tryd.func19, Tryd.ntmps19
    go_wp2
    go_ret
    exact ⟨g_int HV.out.symm, rfl⟩
  · have HV := Lib.hid (leftG_neg (n := n) (left := left) (by omega))
    have h2 : left - (n : Int) < 0 := by omega
    go_enter Tryd.func19, Tryd.ntmps19
    go_wp2
    go_ret
    exact ⟨g_int HV.out.symm, rfl⟩
theorem szGraph_any (N : Int) (A : Option Addr) (n c : Nat) (left : Int) (w : World) (hn : n ≤ maxLen) (h0 : 0 ≤ left) (h1 : left ≤ 1048576) :
    Calls Tryd.prog 5 #[.agg #[.int .i64 N, .slice A n c], .int .i64 left] w (GNum w (leftG left n)) := by
  have C := Lib.hid (fun w => szEdges_any A n c left w hn h0 h1)
  by_cases h : (n : Int) ≤ left
  · have h2 : 0 ≤ left - (n : Int) := by omega
    have e1 := leftG_pos h
    rw [e1] at C ⊢
    generalize left - (n : Int) = q at C h2 ⊢
    clear e1 h
    go_enter Tryd.func5, Tryd.ntmps5
    go_wp2_with fail
    refine (C.out _).mono ?_
    rintro e w1 ⟨rfl, rfl⟩
    go_wp2
    go_ret
    exact ⟨rfl, below_a1 _ _⟩
  · have e1 := leftG_neg (n := n) (left := left) (by omega)
    rw [e1] at C ⊢
    clear e1 h
    go_enter Tryd.func5, Tryd.ntmps5
    go_wp2_with fail
    refine (C.out _).mono ?_
    rintro e w1 ⟨rfl, rfl⟩
    go_wp2
    go_ret
    exact ⟨rfl, below_a1 _ _⟩

theorem toEdge_any (e : GE) (w : World) :
    Calls Tryd.prog 55 #[.agg #[.int .i64 e.f, .int .i64 e.t, .int .i64 e.w]] w fun r w' => r = .returned (.agg #[.int .i64 e.f, .int .i64 e.t, .int .i64 e.w]) ∧ Below w.heap.size w w' := by
  go_enter Tryd.func55, Tryd.ntmps55
  go_wp2
  refine bodyPost_ret (v := .agg #[.int .i64 e.f, .int .i64 e.t, .int .i64 e.w]) (by simp [results, Tryd.results55, go_sem]) rfl ⟨rfl, ?_⟩
  repeat (first | exact below_a3 _ _ _ _ | refine Below.setCell ?_ (by simp <;> omega) _)

set_option maxRecDepth 10000 in
set_option maxHeartbeats 1000000 in
theorem toEdges_any (A : Option Addr) (n c : Nat) (es : List GE) (w : World) (hr : SlG w A n es) (hn : n ≤ 2097152) :
    Calls Tryd.prog 27 #[.slice A n c] w (MadeG w es) := by
  obtain ⟨i0, hi, hz0, hz1, hz2⟩ := info_parts Tryd.infoEdge
  have HR := Lib.hid hr
  clear hr
  go_enter Tryd.func27, Tryd.ntmps27
  go_wp2_with (refine wpList_make_full _ rfl (.tmp 6) (.tmp 6) 36 rfl w.heap.size 76 i0 (.agg #[.int .i64 0, .int .i64 0, .int .i64 0]) 3 Tryd.underlying36 hi hz0 hz1 .i64 .i64 _ _ n rfl rfl rfl rfl (by rw [hz2]; omega) (by unfold maxLen; omega) (Nat.le_refl _) ?_; intro w1 hown hg)
  have hb1 : Below w.heap.size w w1 := (Below.refl _ _).grown hg (Nat.le_refl _) (by simp)
  have hown1 : w1.ownsRow w.heap.size 76 3 (.slice (some ⟨w.heap.size, 0, none⟩) n n) n ((es.take 0 ++ List.replicate (n - 0) zeroG).flatMap GE.cells) := by
    have h := hown
    rw [g_rep GE.cells zeroG 3 GE.cells_len (by omega) (Value.agg #[.int .i64 0, .int .i64 0, .int .i64 0]).cells rfl n] at h
    simpa using h
  clear hown hg
  have HO1 := Lib.hid hown1
  have HB1 := Lib.hid hb1
  clear hown1 hb1
  go_loopw [4] (fun i wr => ∃ k : Nat, k ≤ n ∧ i = .int .i64 k ∧ Hid (wr.ownsRow w.heap.size 76 3 (.slice (some ⟨w.heap.size, 0, none⟩) n n) n ((es.take k ++ List.replicate (n - k) zeroG).flatMap GE.cells)) ∧ Hid (Below w.heap.size w wr)) (fun i _ => n - (intOf i).toNat)
  case atStart => exact ⟨0, Nat.zero_le _, rfl, HO1, HB1⟩
  case round =>
    clear HO1 HB1
    obtain ⟨k, hk, rfl, hown, hbel⟩ := hrel
    by_cases hlt : k < n
    · obtain ⟨b, off, e, rfl, hbw, he, c0, c1, c2⟩ := HR.out.at_ hlt
      have c0 := (hbel.out.cell (p := ⟨b, off + k * 3, none⟩) hbw).trans c0
      have c1 := (hbel.out.cell (p := ⟨b, off + k * 3 + 1, none⟩) hbw).trans c1
      have c2 := (hbel.out.cell (p := ⟨b, off + k * 3 + 2, none⟩) hbw).trans c2
      have HC := Lib.hid (toEdge_any e wr)
      have hmk : (es.take k).length = k := by rw [List.length_take, HR.out.len]; omega
      go_wp2_with fail
      refine HC.out.mono ?_
      rintro e1 w2 ⟨rfl, hb2⟩
      have HB2 := Lib.hid hb2
      have hown2 := own_below hown.out hb2
      rw [rep_succ n k hlt] at hown2
      have hq := fun i (hi : i < 3) => (hown2.cellAt (k * 3 + i) (by omega)).trans (flat_get GE.cells 3 GE.cells_len _ k i zeroG (g_get _ _ _ _ hmk) hi)
      have hc0 : w2.cell? ⟨w.heap.size, k * 3, none⟩ = some (.int .i64 0) := hq 0 (by omega)
      have hc1 : w2.cell? ⟨w.heap.size, k * 3 + 1, none⟩ = some (.int .i64 0) := hq 1 (by omega)
      have hc2 : w2.cell? ⟨w.heap.size, k * 3 + 2, none⟩ = some (.int .i64 0) := hq 2 (by omega)
      have hf0 := hown2.frozenAt (k * 3)
      have hf1 := hown2.frozenAt (k * 3 + 1)
      have hf2 := hown2.frozenAt (k * 3 + 2)
      have HL := Lib.hid (g_lay (e := e) hown2 hmk)
      clear hown2 hq hb2
      go_wp2
      go_roundw
      case rel =>
        refine ⟨k + 1, by omega, by go_num, Lib.hid ?_, Lib.hid (((((g_chain hbel.out HB2.out).setCell (Nat.le_refl _) _).setCell (Nat.le_refl _) _).setCell (Nat.le_refl _) _))⟩
        rw [g_take es k e he.out, List.append_assoc]
        exact HL.out.1
      case measure => simp [intOf]; omega
    · obtain rfl : k = n := by omega
      go_wp2
      go_ret
      have hfin := hown.out
      rw [Nat.sub_self, List.replicate_zero, List.append_nil, List.take_of_length_le (by rw [HR.out.len]; exact Nat.le_refl _), ← HR.out.len] at hfin
      refine ⟨some ⟨w.heap.size, 0, none⟩, es.length, ?_, hfin, hbel.out⟩
      rw [HR.out.len]
      rfl
set_option maxHeartbeats 400000 in
theorem toGraph_any (N : Int) (A : Option Addr) (n c : Nat) (es : List GE) (w : World) (hr : SlG w A n es) (hn : n ≤ 2097152) :
    Calls Tryd.prog 8 #[.agg #[.int .i64 N, .slice A n c]] w (MadeGr w N es) := by
  have C := Lib.hid (fun w' (hb : Below w.heap.size w w') => toEdges_any A n c es w' (hr.below hb) hn)
  clear hr
  go_enter Tryd.func8, Tryd.ntmps8
  go_wp2_with fail
  refine (C.out _ ?_).mono ?_
  · repeat (first | exact below_a3 _ _ _ _ | refine Below.setCell ?_ (by simp <;> omega) _)
  · rintro e w1 ⟨A1, c1, rfl, ho1, hb1⟩
    obtain ⟨hc, hf⟩ := bcell hb1
    have hz : w.heap.size + 1 + 1 < w1.heap.size := by have := hb1.size; simp at this; omega
    have HB := Lib.hid hb1
    clear hb1
    go_wp2
    refine bodyPost_ret (v := .agg #[.int .i64 N, .slice A1 es.length c1]) (by simp [results, Tryd.results8, go_sem, hc]) rfl ⟨A1, c1, rfl, ?_, ?_⟩
    · have ho2 := ho1
      rw [World.size_alloc, World.size_alloc, World.size_alloc] at ho2
      refine own_monoG (lo := w.heap.size + 1 + 1 + 1) ?_ (by omega)
      repeat (first | exact ho2 | refine own_lowG ?_ (by simp <;> omega) _)
    · repeat (first | exact g_chain (by repeat (first | exact below_a3 _ _ _ _ | refine Below.setCell ?_ (by simp <;> omega) _)) HB.out | refine Below.setCell ?_ (by simp <;> omega) _)
end Go.Proofs.YtlhcobkncceodaaDoor
namespace Go.Proofs.YtlhcobkncceodaaDoor
open Go.RowKit
set_option linter.unusedVariables false

section
variable (p s it : Int) (dn : Bool) (A : Option Addr) (n c : Nat) (B : Option Addr) (m d : Nat) (nn : Int) (C : Option Addr) (j k : Nat) (vs ev : List Int) (nx : List Nat) (w : World)
theorem eqRun_is (A' : Option Addr) (c' : Nat) (B' : Option Addr) (d' : Nat) (C' : Option Addr) (k' : Nat) (hv : SlI w A n vs) (he : SlI w B m ev) (hx : Rd w C j nx) (hv' : SlI w A' n vs) (he' : SlI w B' m ev) (hx' : Rd w C' j nx) (hk : j ≤ k) (hk' : j ≤ k') (h1 : n ≤ 2097152) (h2 : m ≤ 2097152) (h3 : j ≤ 2097152) :
    Calls Tryd.prog 12 #[.agg #[.int .i64 p, .int .i64 s, .int .i64 it, .bool dn, .slice A n c, .slice B m d, .int .i64 nn, .slice C j k], .agg #[.int .i64 p, .int .i64 s, .int .i64 it, .bool dn, .slice A' n c', .slice B' m d', .int .i64 nn, .slice C' j k']] w (GTell w true) := by
  obtain rfl := hv.len
  obtain rfl := he.len
  obtain rfl := hx.len
  exact eqRun_any ⟨p, s, it, dn, vs, ev, nn, nx⟩ A c B d C k A' c' B' d' C' k' w ⟨hv, he, hx⟩ ⟨hv', he', hx'⟩ hk hk' h1 h2 h3
end
/-- Nothing is written but in blocks from l to h, and new ones. -/
def Wr (l h : Nat) (w w' : World) : Prop := OnlyB (fun g => l ≤ g ∧ g < h) w w'
section
variable {w w' w0 : World} {l h l1 h1 lo e sz n c b : Nat} {A : Option Addr} {xs : List Value} {v : Value}
theorem Wr.of_grown {row : Option Nat} (hg : w.grownBy w' row) (hr : ∀ g, row = some g → l ≤ g ∧ g < h) : Wr l h w w' := (OnlyB.refl _ w).grown hg hr
theorem Wr.of_only {S : Nat → Prop} (ho : OnlyB S w w') (hr : ∀ g, S g → l ≤ g ∧ g < h) : Wr l h w w' := ho.mono hr
theorem Wr.size (hw : Wr l h w w') : w.heap.size ≤ w'.heap.size := OnlyB.size hw
theorem Wr.blk {cs : Array Value} {t : TypeId} (hw : Wr l h w w') (hb : Blk w b cs t) (hd : b < l ∨ h ≤ b) : Blk w' b cs t := hb.keep (OnlyB.block hw b hb.lt (fun hh => by have h1 := hh.1; have h2 := hh.2; omega))
theorem Wr.own (hw : Wr l h w w') (ho : w.ownsRow lo e sz v n xs) (ha : ∀ g, v.ownBlock = some g → l1 ≤ g ∧ g < h1) (hd : h1 ≤ l ∨ h ≤ l1) : w'.ownsRow lo e sz v n xs :=
  OnlyB.own ho hw (fun g hg hh => by have h2 := ha g hg; have h3 := hh.1; have h4 := hh.2; omega)
theorem Wr.orig {base : Nat} (hw : Wr l h w w') (hb : Below base w0 w) (hs : base ≤ w.heap.size) (hl : base ≤ l) : Below base w0 w' := hb.trans (OnlyB.toBelow hw hs (fun k hk => by have h1 := hk.1; omega))
end
/-- Where the rows of a run lie. -/
def RunAt (A : Option Addr) (n c : Nat) (B : Option Addr) (m d : Nat) (C : Option Addr) (j k l h : Nat) : Prop := ∀ g, runBlk A n c B m d C j k g → l ≤ g ∧ g < h
theorem Rows3.at_ {w : World} {lo n c m d j k : Nat} {A B C : Option Addr} {vs ev : List Int} {nx : List Nat} (h : Rows3 w lo A n c B m d C j k vs ev nx) : RunAt A n c B m d C j k lo w.heap.size := by
  rintro g (hg | hg | hg)
  · exact h.v.lt g hg
  · exact h.e.lt g hg
  · exact h.x.lt g hg
theorem Wr.rows {w w' : World} {l h l1 h1 lo n c m d j k : Nat} {A B C : Option Addr} {vs ev : List Int} {nx : List Nat} (hw : Wr l h w w') (hr : Rows3 w lo A n c B m d C j k vs ev nx) (ha : RunAt A n c B m d C j k l1 h1) (hd : h1 ≤ l ∨ h ≤ l1) : Rows3 w' lo A n c B m d C j k vs ev nx :=
  ⟨hw.own hr.v (fun g hg => ha g (.inl hg)) hd, hw.own hr.e (fun g hg => ha g (.inr (.inl hg))) hd, hw.own hr.x (fun g hg => ha g (.inr (.inr hg))) hd, hr.ap⟩
theorem Rows3.cap {w : World} {lo n c m d j k : Nat} {A B C : Option Addr} {vs ev : List Int} {nx : List Nat} (h : Rows3 w lo A n c B m d C j k vs ev nx) : j ≤ k := by
  rcases h.x.2 with ⟨h, h0⟩ | ⟨g, cap, cur, h, _, _, h1, _⟩
  · injection h with _ e1 _
    omega
  · injection h with _ _ e3
    omega
end Go.Proofs.YtlhcobkncceodaaDoor
namespace Go.Proofs.YtlhcobkncceodaaDoor

/-- A view that bears the edge's new value. -/
def VE.put (e : VE) (p x : Int) (n : Nat) : VE := ⟨e.i, e.o, e.w, newEdge p x n e⟩
end Go.Proofs.YtlhcobkncceodaaDoor
namespace Go.Proofs.YtlhcobkncceodaaDoor
open Go.RowKit

def Lab (p : Int) (S : SD) : Prop := p = 4 → (∀ x ∈ S.vs, 0 ≤ x ∧ x < 1000) ∧ ∀ x ∈ S.ev, 0 ≤ x ∧ x < 1000000
section
variable {p : Int} {N : Nat} {G : List GE} {S : SD}
/-! ### an iteration -/
end
end Go.Proofs.YtlhcobkncceodaaDoor
namespace Go.Proofs.YtlhcobkncceodaaDoor
open Go.RowKit

def newR (N : Int) (G : List GE) (p s : Int) : RD :=
  ⟨p, s, 0, decide (N = 0), (List.range N.toNat).map (fun v : Nat => firstV p s (v : Int)), G.map (fun e => firstE p e.f e.t ((degs GE.f N.toNat G).getD e.f.toNat 0)), N, newX N true⟩
/-! ### first values -/
theorem firstV_in (p s v : Int) : 0 ≤ firstV p s v ∧ firstV p s v ≤ 1099511627776 := by
  unfold firstV
  split
  · rename_i h
    unfold vtxB at h
    simp only [Bool.and_eq_true, decide_eq_true_eq] at h
    split
    · omega
    split
    · split <;> omega
    · omega
  · omega
theorem firstE_in (p f t d : Int) : 0 ≤ firstE p f t d ∧ firstE p f t d ≤ 1099511627776 := by
  unfold firstE
  split
  · rename_i h
    unfold firstEB vtxB at h
    simp only [Bool.and_eq_true, decide_eq_true_eq] at h
    split
    · rw [Int.tdiv_eq_ediv_of_nonneg (by omega)]
      have h1 := Int.ediv_nonneg (a := 1048576) (b := d) (by omega) (by omega)
      have h2 := Int.ediv_le_self (a := 1048576) d (by omega)
      omega
    split <;> omega
  · omega
/-! ### sets of vertices -/
theorem bit_zero (n v : Nat) : bitN (List.replicate n 0) v = false := by
  unfold bitN
  rw [List.getD_eq_getElem?_getD, List.getElem?_replicate]
  split <;> simp
theorem bit_fill {n k : Nat} (hk : k ≤ n) (u : Nat) : bitN (fillV (bytesN n) k) u = decide (u < k) := by
  induction k with
  | zero => unfold fillV; simp only [List.range_zero, List.foldl_nil]; rw [bit_zero]; simp
  | succ k ih =>
    rw [fill_step, bit_addV (by rw [fill_len]; exact lt_bytes (by omega)), ih (by omega), Bool.eq_iff_iff]
    simp
    omega
theorem newX_is {N : Nat} (hN : N ≤ 150) (all : Bool) : newX (N : Int) all = fillV (bytesN N) (if all then N else 0) := by
  unfold newX newB
  rw [if_pos (by simp; omega), Int.toNat_natCast]
theorem newX_ok {N : Nat} (hN : N ≤ 150) (all : Bool) : setB (N : Int) (newX (N : Int) all) = true := by
  rw [newX_is hN]
  exact setB_fill hN (by split <;> omega)
theorem newX_bit {N : Nat} (hN : N ≤ 150) (all : Bool) (u : Nat) : bitN (newX (N : Int) all) u = (all && decide (u < N)) := by
  rw [newX_is hN, bit_fill (by split <;> omega)]
  cases all <;> simp
theorem mems_nil {N : Nat} {ys : List Nat} (h : setB (N : Int) ys = true) : (memsB (N : Int) ys).length = 0 ↔ ∀ u, u < N → bitN ys u = false := by
  unfold memsB memsR
  rw [if_pos h, List.length_map, Int.toNat_natCast, List.length_eq_zero_iff, List.filter_eq_nil_iff]
  constructor
  · intro h1 u hu
    have := h1 u (List.mem_range.2 hu)
    simpa using this
  · intro h1 u hu
    rw [h1 u (List.mem_range.1 hu)]
    simp

/-! ### a run -/
structure RunP (N : Nat) (G : List GE) (r : RD) : Prop where
  g : graphB (N : Int) G = true
  j : jobB (N : Int) r.p r.s = true
  i : 0 ≤ r.it ∧ r.it ≤ 1000
  vl : r.vs.length = N
  el : r.ev.length = G.length
  vv : ∀ x ∈ r.vs, 0 ≤ x ∧ x ≤ 1099511627776
  ee : ∀ x ∈ r.ev, 0 ≤ x ∧ x ≤ 1099511627776
  nx : setB (N : Int) r.nx = true
  nn : r.nn = (N : Int)
  dn : r.dn = decide ((memsB (N : Int) r.nx).length = 0)
theorem RunP.prog {N : Nat} {G : List GE} {r : RD} (h : RunP N G r) : 1 ≤ r.p ∧ r.p ≤ 4 := by
  have h1 := h.j
  unfold jobB progB at h1
  simp only [Bool.and_eq_true, decide_eq_true_eq] at h1
  exact h1.1
/-- The bytes of the set are bytes. -/
def SmallR (r : RD) : Prop := ∀ x ∈ r.nx, x < 256
section
variable {N : Nat} {G : List GE} {r : RD}
theorem newR_ok {p s : Int} (hG : graphB (N : Int) G = true) (hj : jobB (N : Int) p s = true) : RunP N G (newR (N : Int) G p s) := by
  have hN : N ≤ 150 := by have := graphB_iff hG; omega
  refine ⟨hG, hj, by unfold newR; simp, by unfold newR; simp, by unfold newR; simp, fun x hx => ?_, fun x hx => ?_, newX_ok hN true, rfl, ?_⟩
  · obtain ⟨v, _, rfl⟩ := List.mem_map.1 hx
    exact firstV_in _ _ _
  · obtain ⟨e, _, rfl⟩ := List.mem_map.1 hx
    exact firstE_in _ _ _ _
  · show decide ((N : Int) = 0) = decide ((memsB (N : Int) (newX (N : Int) true)).length = 0)
    rw [Bool.eq_iff_iff, decide_eq_true_iff, decide_eq_true_iff, mems_nil (newX_ok hN true)]
    constructor
    · intro h u hu; omega
    · intro h
      rcases Nat.eq_zero_or_pos N with h0 | h0
      · omega
      · have := h 0 h0
        rw [newX_bit hN] at this
        simp at this
        omega
theorem newR_small (p s : Int) : SmallR (newR (N : Int) G p s) := newX_small _ _
end
end Go.Proofs.YtlhcobkncceodaaDoor
namespace Go.Proofs.YtlhcobkncceodaaDoor
open Go.RowKit
set_option linter.unusedVariables false

def noRun : RD := ⟨0, 0, 0, false, [], [], 0, []⟩
/-- A new run, and a truth value. -/
def MadeRB (w : World) (r : RD) (b : Bool) (e : Ending) (w' : World) : Prop :=
  ∃ A c B d C k, e = .returned (.tuple #[.agg #[.int .i64 r.p, .int .i64 r.s, .int .i64 r.it, .bool r.dn, .slice A r.vs.length c, .slice B r.ev.length d, .int .i64 r.nn, .slice C r.nx.length k], .bool b]) ∧ Rows3 w' w.heap.size A r.vs.length c B r.ev.length d C r.nx.length k r.vs r.ev r.nx ∧ Below w.heap.size w w'
theorem nil_rows (w : World) (lo : Nat) : Rows3 w lo none 0 0 none 0 0 none 0 0 [] [] [] := ⟨World.ownsRow_nil _ _ _ _, World.ownsRow_nil _ _ _ _, ⟨rfl, .inl ⟨rfl, rfl⟩⟩, .inl rfl⟩
theorem MadeRB.no {w w' : World} (h : Below w.heap.size w w') : MadeRB w noRun false (.returned (.tuple #[.agg #[.int .i64 0, .int .i64 0, .int .i64 0, .bool false, .slice none 0 0, .slice none 0 0, .int .i64 0, .slice none 0 0], .bool false])) w' := ⟨none, 0, none, 0, none, 0, rfl, nil_rows _ _, h⟩
/-- A new run. -/
def MadeRO (w : World) (r : RD) (e : Ending) (w' : World) : Prop :=
  ∃ A c B d C k, e = .returned (.agg #[.int .i64 r.p, .int .i64 r.s, .int .i64 r.it, .bool r.dn, .slice A r.vs.length c, .slice B r.ev.length d, .int .i64 r.nn, .slice C r.nx.length k]) ∧ Rows3 w' w.heap.size A r.vs.length c B r.ev.length d C r.nx.length k r.vs r.ev r.nx ∧ Below w.heap.size w w'
theorem MadeRO.no {w w' : World} (h : Below w.heap.size w w') : MadeRO w noRun (.returned (.agg #[.int .i64 0, .int .i64 0, .int .i64 0, .bool false, .slice none 0 0, .slice none 0 0, .int .i64 0, .slice none 0 0])) w' := ⟨none, 0, none, 0, none, 0, rfl, nil_rows _ _, h⟩
/-! ### as often as asked -/
end Go.Proofs.YtlhcobkncceodaaDoor
namespace Go.Proofs.YtlhcobkncceodaaDoor
open Go.RowKit
set_option linter.unusedVariables false

def newB' (N : Int) (G : List GE) (p s : Int) : Bool := graphB N G && jobB N p s
def newO (N : Int) (G : List GE) (p s : Int) : RD := if newB' N G p s then newR N G p s else noRun
def valsK (p s : Int) (k : Nat) : List Int := (List.range k).map (fun v : Nat => firstV p s (v : Int))
def edgesK (p : Int) (N : Nat) (G : List GE) (k : Nat) : List Int := (G.take k).map (fun e => firstE p e.f e.t ((degs GE.f N G).getD e.f.toNat 0))
theorem valsK_step (p s : Int) (k : Nat) : valsK p s (k + 1) = valsK p s k ++ [firstV p s (k : Int)] := by
  unfold valsK
  rw [List.range_succ, List.map_append]
  rfl
theorem edgesK_step (p : Int) (N : Nat) (G : List GE) {k f : Nat} {e : GE} {x : Int} (he : G[k]? = some e) (hf : e.f = (f : Int)) (hx : (degs GE.f N G)[f]? = some x) : edgesK p N G (k + 1) = edgesK p N G k ++ [firstE p (f : Int) e.t x] := by
  unfold edgesK
  rw [g_take _ _ _ he, List.map_append]
  simp [hf, List.getD_eq_getElem?_getD, hx]
theorem new_is {N : Nat} {G : List GE} {p s : Int} : newR (N : Int) G p s = ⟨p, s, 0, decide ((N : Int) = 0), valsK p s N, edgesK p N G G.length, (N : Int), newX (N : Int) true⟩ := by
  unfold newR valsK edgesK
  rw [List.take_length, Int.toNat_natCast]
theorem valsK_len (p s : Int) (k : Nat) : (valsK p s k).length = k := by simp [valsK]
theorem edgesK_len (p : Int) (N : Nat) (G : List GE) {k : Nat} (hk : k ≤ G.length) : (edgesK p N G k).length = k := by simp [edgesK]; omega
/-- Rows of two times. -/
theorem rows_far {v1 v2 : Value} {L : Nat} (h1 : ∀ g, v1.ownBlock = some g → g < L) (h2 : ∀ g, v2.ownBlock = some g → L ≤ g) : v1.ownBlock = none ∨ v1.ownBlock ≠ v2.ownBlock := by
  cases h : v1.ownBlock with
  | none => exact .inl rfl
  | some g => exact .inr (fun e => by have := h1 g h; have := h2 g e.symm; omega)
theorem rows_ap {v1 v2 : Value} {L : Nat} (h1 : ∀ g, v1.ownBlock = some g → g < L) (h2 : ∀ g, v2.ownBlock = some g → L ≤ g) : v1.ownBlock = none ∨ v2.ownBlock ≠ v1.ownBlock :=
  (rows_far h1 h2).imp id fun h e => h e.symm
end Go.Proofs.YtlhcobkncceodaaDoor
namespace Go.Proofs.YtlhcobkncceodaaDoor
open Go.RowKit

def LimR (r : RD) : Prop := SmallR r ∧ r.vs.length ≤ 1048576 ∧ r.ev.length ≤ 1048576 ∧ r.nx.length ≤ 1048576
theorem lim_no : LimR noRun := ⟨fun x hx => (by cases hx), Nat.zero_le _, Nat.zero_le _, Nat.zero_le _⟩
theorem lim_run {N : Nat} {G : List GE} {r : RD} (h : RunP N G r) (hs : SmallR r) : LimR r := by
  have h1 := h.vl
  have h2 := h.el
  have h3 := (setB_dim h.nx).2.2
  have h4 := graphB_iff h.g
  simp only [Int.toNat_natCast] at h3
  unfold bytesN at h3
  exact ⟨hs, by omega, by omega, by omega⟩
theorem lim_new (N : Int) (G : List GE) (p s : Int) : LimR (newO N G p s) := by
  unfold newO newB'
  cases h : graphB N G with
  | false => rw [if_neg (by simp)]; exact lim_no
  | true =>
    cases h2 : jobB N p s with
    | false => rw [if_neg (by simp)]; exact lim_no
    | true =>
      simp only [Bool.true_and, if_true]
      obtain ⟨q, rfl⟩ : ∃ q : Nat, N = (q : Int) := ⟨N.toNat, by have := graphB_iff h; omega⟩
      exact lim_run (newR_ok h h2) (newR_small p s)
end Go.Proofs.YtlhcobkncceodaaDoor
namespace Go.Proofs.YtlhcobkncceodaaDoor
open Go.ChangeShapes Go.WideShapes Go.ChangeAt Go.RowKit
set_option linter.unusedVariables false

def wtZ : List Int := [1, 2, 4, 8, 16, 32, 64, 128]
def wtV : Array Value := #[.int .u8 1, .int .u8 2, .int .u8 4, .int .u8 8, .int .u8 16, .int .u8 32, .int .u8 64, .int .u8 128]
theorem weights_data : [("loop.example/g00671/impl.weights", (Rows.laid_loop_example_g00671_impl_weights : DataW Unit))] = [("loop.example/g00671/impl.weights", (Lib.tabData .u8 wtZ : DataW Unit))] := by kernel_rfl
theorem weights_name : Tryd.prog.globalNamed "loop.example/g00671/impl.weights" = some 0 := by kernel_rfl
theorem weights_type : (Tryd.prog.globals[0]?).map (·.type) = some 108 := by kernel_rfl
theorem weights_var {W : World} (h : laidMet Tryd.prog [("loop.example/g00671/impl.weights", (Lib.tabData .u8 wtZ : DataW Unit))] W) : W.var? Tryd.prog "loop.example/g00671/impl.weights" = some wtV :=
  Lib.tabIs_of_head (g := 0) (t := 108) (e := 5) (n := 8) weights_name weights_type Tryd.underlying108 Tryd.underlying5 (by kernel_rfl) (by kernel_rfl) h
/-- How it reads, whatever the memory. -/
abbrev wtH {H : Type} : DataW H := Rows.laid_loop_example_g00671_impl_weights
theorem weights_reads {H : Type} (enc : TypeId × Value → H) (W : World) (sp : Nat → Bool) : DataW.trod enc Tryd.prog W 0 sp true 3 108 wtV.toList = some (wtH, []) := by kernel_rfl
theorem weights_trod {H : Type} (enc : TypeId × Value → H) {W : World} (h : W.var? Tryd.prog "loop.example/g00671/impl.weights" = some wtV) (sp : Nat → Bool) :
    DataW.TrodVars enc Tryd.prog W sp ["loop.example/g00671/impl.weights"] [wtH] (MemPlace.row ⟨0, 0, none⟩ wtV.size ++ []) :=
  trodVars_mk1 weights_name weights_type h (weights_reads enc W sp)
theorem weights_met {W : World} (h : W.var? Tryd.prog "loop.example/g00671/impl.weights" = some wtV) : Wts W := by
  have hc : ∀ i, i < 8 → W.cell? ⟨0, i, none⟩ = some (.int .u8 ((2 ^ i : Nat) : Int)) := by
    intro i hi
    have h0 := World.var?_cell weights_name h i
    rw [h0]
    have : i = 0 ∨ i = 1 ∨ i = 2 ∨ i = 3 ∨ i = 4 ∨ i = 5 ∨ i = 6 ∨ i = 7 := by omega
    rcases this with rfl | rfl | rfl | rfl | rfl | rfl | rfl | rfl <;> rfl
  exact ⟨World.block_lt_of_cell? W _ (hc 0 (by omega)), hc⟩
theorem weights_below {W W' : World} (h : W.var? Tryd.prog "loop.example/g00671/impl.weights" = some wtV) (hb : Below W.heap.size W W') : W'.var? Tryd.prog "loop.example/g00671/impl.weights" = some wtV := by
  have hl := (weights_met h).lt
  unfold World.var? at h ⊢
  rw [weights_name, Option.bind_some] at h ⊢
  rw [hb.block _ hl]
  exact h
end Go.Proofs.YtlhcobkncceodaaDoor
namespace Go.Proofs.YtlhcobkncceodaaDoor
open Go.RowKit

theorem lab_reads (w : World) (u : Value) (t : TypeId) (g : Nat) (hg : g = w.heap.size) : Reads (w.alloc (.cells #[u] t)) (g + 1) 1 (some ⟨g, 0, none⟩) 1 [u] := by
  subst hg
  refine ⟨rfl, fun _ => ⟨_, rfl, by simp, fun j x hj => ?_⟩⟩
  match j, hj with
  | 0, hj => simp at hj; subst hj; simp [Addr.add]
theorem lab_one (x : Int) : ∀ u ∈ [Value.int .i64 x], u.oneCell' = true := by
  intro u hu
  simp at hu
  subst hu
  rfl
end Go.Proofs.YtlhcobkncceodaaDoor
namespace Go.Proofs.YtlhcobkncceodaaDoor
open Go.RowKit

/-- A block of two cells that may be written. -/
structure DBox (w : World) (b : Nat) (v0 v1 : Value) : Prop where
  lt : b < w.heap.size
  c0 : w.cell? ⟨b, 0, none⟩ = some v0
  c1 : w.cell? ⟨b, 1, none⟩ = some v1
  f : ∀ i, w.frozen? ⟨b, i, none⟩ = false
section
variable {w w' : World} {b : Nat} {v0 v1 : Value}
theorem DBox.keep (h : DBox w b v0 v1) (hs : w.heap.size ≤ w'.heap.size) (hk : w'.heap[b]? = w.heap[b]?) : DBox w' b v0 v1 :=
  ⟨Nat.lt_of_lt_of_le h.lt hs, (World.cell?_of_block (a := ⟨b, 0, none⟩) hk).trans h.c0, (World.cell?_of_block (a := ⟨b, 1, none⟩) hk).trans h.c1, fun i => (World.frozen?_of_block (a := ⟨b, i, none⟩) hk).trans (h.f i)⟩
theorem DBox.below (h : DBox w b v0 v1) (hb : Below w.heap.size w w') : DBox w' b v0 v1 := h.keep hb.size (hb.block b h.lt)
theorem DBox.grown {row : Option Nat} (h : DBox w b v0 v1) (hg : w.grownBy w' row) (hr : row ≠ some b) : DBox w' b v0 v1 := h.keep hg.size (hg.block b h.lt (fun e => hr e.symm))
theorem DBox.new (w : World) (v0 v1 : Value) (t : TypeId) : DBox (w.alloc (.cells #[v0, v1] t)) w.heap.size v0 v1 := ⟨by simp, by simp, by simp, fun i => by simp⟩
theorem DBox.alloc (h : DBox w b v0 v1) (o : Obj) : DBox (w.alloc o) b v0 v1 := h.below (below_a1 w o)
theorem DBox.drew (h : DBox w b v0 v1) : DBox w.drew b v0 v1 := ⟨h.lt, h.c0, h.c1, h.f⟩
theorem DBox.far (h : DBox w b v0 v1) {p : Addr} (hp : b ≠ p.block) (u : Value) : DBox (w.setCell p u) b v0 v1 := h.keep (by simp) (Below.heap_setCell w p u b hp)
end

theorem own_formG {w : World} {base e size n : Nat} {v : Value} {xs : List Value} (h : w.ownsRow base e size v n xs) : ∃ A c, v = .slice A n c ∧ n ≤ c := by
  rcases h.2 with ⟨rfl, rfl⟩ | ⟨g, cap, _, rfl, _, _, hc, _⟩
  · exact ⟨_, _, rfl, Nat.le_refl _⟩
  · exact ⟨_, _, rfl, hc⟩
end Go.Proofs.YtlhcobkncceodaaDoor
namespace Go.Proofs.YtlhcobkncceodaaDoor
open Go.RowKit
set_option linter.unusedVariables false

def zI (l : List Nat) : List Int := l.map fun i : Nat => (i : Int)
/-- While they are gathered. -/
structure VSt (w wr : World) (A1 : Option Addr) (c1 : Nat) (A2 : Option Addr) (c2 : Nat) (es : List VE) (is : List Nat) : Prop where
  v : wr.ownsRow w.heap.size 105 4 (.slice A1 is.length c1) is.length (es.flatMap VE.cells)
  i : wr.ownsRow w.heap.size 3 1 (.slice A2 is.length c2) is.length (vi (zI is))
  h : Below w.heap.size w wr
section
variable {w wr w5 : World} {A1 A2 : Option Addr} {c1 c2 : Nat} {es : List VE} {is : List Nat}
theorem VSt.below (h : VSt w wr A1 c1 A2 c2 es is) (hb : Below wr.heap.size wr w5) : VSt w w5 A1 c1 A2 c2 es is := ⟨own_below h.v hb, own_below h.i hb, g_chain h.h hb⟩
theorem VSt.alloc (h : VSt w wr A1 c1 A2 c2 es is) (o : Obj) : VSt w (wr.alloc o) A1 c1 A2 c2 es is := h.below (below_a1 wr o)
theorem VSt.drew (h : VSt w wr A1 c1 A2 c2 es is) : VSt w wr.drew A1 c1 A2 c2 es is := ⟨h.v, h.i, h.h.drew⟩
end
end Go.Proofs.YtlhcobkncceodaaDoor
namespace Go.Proofs.YtlhcobkncceodaaDoor
open Go.RowKit
set_option linter.unusedVariables false

structure USt (w0 w : World) (b : Nat) (p s it : Int) (dn : Bool) (A : Option Addr) (n c : Nat) (B : Option Addr) (m d : Nat) (nn : Int) (C : Option Addr) (j k : Nat) (D : Option Addr) (q e : Nat) (vs ev : List Int) (nx nw : List Nat) : Prop where
  r : RSt w w0.heap.size b p s it dn A n c B m d nn C j k vs ev nx
  d : w.ownsRow w0.heap.size 5 1 (.slice D q e) q (vb nw)
  ap : (Value.slice C j k).ownBlock = none ∨ (Value.slice D q e).ownBlock ≠ (Value.slice C j k).ownBlock
  h : Below w0.heap.size w0 w
section
variable {w0 w w' : World} {b n c m d j k q e : Nat} {p s it nn : Int} {dn : Bool} {A B C D : Option Addr} {vs ev : List Int} {nx nw : List Nat}
theorem USt.below (h : USt w0 w b p s it dn A n c B m d nn C j k D q e vs ev nx nw) (hb : Below w.heap.size w w') : USt w0 w' b p s it dn A n c B m d nn C j k D q e vs ev nx nw :=
  ⟨h.r.below hb, own_below h.d hb, h.ap, g_chain h.h hb⟩
end
section
variable {w0 w w' : World} {b n c m d j k q e g : Nat} {p s it nn : Int} {dn : Bool} {A B C D : Option Addr} {vs ev : List Int} {nx nw : List Nat}
end
section
variable {w0 w w' : World} {b n c m d j k q e g : Nat} {p s it nn : Int} {dn : Bool} {A B C D : Option Addr} {vs ev : List Int} {nx nw : List Nat}
end
/-- What else the update of a vertex holds: its boxes, the views, their places, the new values of the edges; all of it at L and above. -/
structure UAux (L : Nat) (w : World) (b1 b2 : Nat) (g1 g2 : Array Value) (t1 t2 : TypeId) (A1 : Option Addr) (c1 : Nat) (A2 : Option Addr) (c2 : Nat) (A3 : Option Addr) (c3 : Nat) (es : List VE) (is : List Nat) (ys : List Int) : Prop where
  bg : Blk w b1 g1 t1
  bn : Blk w b2 g2 t2
  l1 : L ≤ b1
  l2 : L ≤ b2
  ov : w.ownsRow L 105 4 (.slice A1 is.length c1) is.length (es.flatMap VE.cells)
  oi : w.ownsRow L 3 1 (.slice A2 is.length c2) is.length (vi (zI is))
  oy : w.ownsRow L 3 1 (.slice A3 is.length c3) is.length (vi ys)
section
variable {L : Nat} {w w' : World} {b1 b2 : Nat} {g1 g2 : Array Value} {t1 t2 : TypeId} {A1 A2 A3 : Option Addr} {c1 c2 c3 : Nat} {es : List VE} {is : List Nat} {ys : List Int}
theorem UAux.below (h : UAux L w b1 b2 g1 g2 t1 t2 A1 c1 A2 c2 A3 c3 es is ys) (hb : Below w.heap.size w w') : UAux L w' b1 b2 g1 g2 t1 t2 A1 c1 A2 c2 A3 c3 es is ys :=
  ⟨h.bg.below hb, h.bn.below hb, h.l1, h.l2, own_below h.ov hb, own_below h.oi hb, own_below h.oy hb⟩
theorem own_late {w w' : World} {L e s n g : Nat} {v : Value} {xs : List Value} (h : w.ownsRow L e s v n xs) {row : Option Nat} (hg : w.grownBy w' row) (hr : ∀ g, row = some g → g < L) : w'.ownsRow L e s v n xs :=
  h.kept hg (by
    cases hv : v.ownBlock with
    | none => exact .inl rfl
    | some x => exact .inr (fun e => by have := (h.lt x hv).1; have := hr x e.symm; omega))
theorem UAux.grown (h : UAux L w b1 b2 g1 g2 t1 t2 A1 c1 A2 c2 A3 c3 es is ys) {row : Option Nat} (hg : w.grownBy w' row) (hr : ∀ g, row = some g → g < L) : UAux L w' b1 b2 g1 g2 t1 t2 A1 c1 A2 c2 A3 c3 es is ys :=
  ⟨h.bg.grown hg (fun e => by have := hr _ e; have := h.l1; omega), h.bn.grown hg (fun e => by have := hr _ e; have := h.l2; omega), h.l1, h.l2, own_late (g := 0) h.ov hg hr, own_late (g := 0) h.oi hg hr, own_late (g := 0) h.oy hg hr⟩
end
/-! ### one edge after the other, as data -/
end Go.Proofs.YtlhcobkncceodaaDoor
namespace Go.Proofs.YtlhcobkncceodaaDoor
open Go.RowKit
set_option linter.unusedVariables false

theorem OnlyB.blk {S : Nat → Prop} {w w' : World} {b : Nat} {cs : Array Value} {t : TypeId} (h : OnlyB S w w') (hb : Blk w b cs t) (hn : ¬ S b) : Blk w' b cs t := hb.keep (h.block b hb.lt hn)
section
variable {w0 w w' : World} {lo b n c m d j k : Nat} {p s it nn : Int} {dn : Bool} {A B C : Option Addr} {vs ev : List Int} {nx : List Nat}
end
end Go.Proofs.YtlhcobkncceodaaDoor
namespace Go.Proofs.YtlhcobkncceodaaDoor
open Go.RowKit
set_option linter.unusedVariables false

/-- What else it holds. -/
structure MAux (L : Nat) (w : World) (g1 z1 z2 : Array Value) (t1 : TypeId) (N : Int) (D : Option Addr) (q e : Nat) (A1 : Option Addr) (c1 : Nat) (A2 : Option Addr) (c2 : Nat) (A3 : Option Addr) (c3 : Nat) (es : List VE) (is : List Nat) (ys : List Int) : Prop where
  u : UAux L w L (L + 3) g1 z1 t1 43 A1 c1 A2 c2 A3 c3 es is ys
  z : Blk w (L + 4) z2 41
  n : Blk w (L + 2) #[.int .i64 N, .slice D q e] 41
section
variable {L b1 b2 : Nat} {w w' : World} {g1 g2 z1 z2 : Array Value} {t1 t2 : TypeId} {N : Int} {D D' : Option Addr} {q e q' e' : Nat} {A1 A2 A3 : Option Addr} {c1 c2 c3 : Nat} {es : List VE} {is : List Nat} {ys : List Int}
theorem MAux.below (h : MAux L w g1 z1 z2 t1 N D q e A1 c1 A2 c2 A3 c3 es is ys) (hb : Below w.heap.size w w') : MAux L w' g1 z1 z2 t1 N D q e A1 c1 A2 c2 A3 c3 es is ys := ⟨h.u.below hb, h.z.below hb, h.n.below hb⟩
theorem MAux.grown (h : MAux L w g1 z1 z2 t1 N D q e A1 c1 A2 c2 A3 c3 es is ys) {row : Option Nat} (hg : w.grownBy w' row) (hr : ∀ g, row = some g → g < L) : MAux L w' g1 z1 z2 t1 N D q e A1 c1 A2 c2 A3 c3 es is ys :=
  ⟨h.u.grown hg hr, h.z.grown hg (fun e => by have := hr _ e; omega), h.n.grown hg (fun e => by have := hr _ e; omega)⟩
end
section
variable {w0 w w' : World} {b n c m d j k q e j' k' q' e' : Nat} {p s it nn : Int} {dn : Bool} {A B C D C' D' : Option Addr} {vs ev : List Int} {nx nw zs : List Nat}
end
end Go.Proofs.YtlhcobkncceodaaDoor
namespace Go.Proofs.YtlhcobkncceodaaDoor
open Go.RowKit
set_option linter.unusedVariables false

section
variable {w0 w : World} {lo b n c m d j k q e : Nat} {p s it nn : Int} {dn : Bool} {A B C D : Option Addr} {vs ev : List Int} {nx nw : List Nat} {y0 y1 y2 y3 y4 y5 y6 y7 : Value}
/-- A run that has just been made stands in a block made behind it. -/
theorem RSt.made (hr : Rows3 w lo A n c B m d C j k vs ev nx) (hl : lo ≤ w.heap.size) :
    RSt (w.alloc (.cells #[.int .i64 p, .int .i64 s, .int .i64 it, .bool dn, .slice A n c, .slice B m d, .int .i64 nn, .slice C j k] 43)) lo w.heap.size p s it dn A n c B m d nn C j k vs ev nx :=
  let hb := below_a1 w (.cells #[.int .i64 p, .int .i64 s, .int .i64 it, .bool dn, .slice A n c, .slice B m d, .int .i64 nn, .slice C j k] 43)
  ⟨Blk.new w _ _, own_below hr.v hb, own_below hr.e hb, own_below hr.x hb, hr.ap, hl⟩
end
end Go.Proofs.YtlhcobkncceodaaDoor
namespace Go.Proofs.YtlhcobkncceodaaDoor
open Go.RowKit

theorem implIsVertex (v : Int) (w : World) :
    Calls Tryd.prog 68 #[.int .i64 v] w (fun e w' => e = .returned (.bool (vtxB v)) ∧ w' = w) := by
  by_cases h : 0 ≤ v
  · have e1 : vtxB v = decide (v < 150) := by unfold vtxB; simp [h]
    rw [e1]
    go_enter Tryd.func68, Tryd.ntmps68
    go_wp2
    go_ret
    exact ⟨rfl, rfl⟩
  · have e1 : vtxB v = false := by unfold vtxB; simp [h]
    rw [e1]
    go_enter Tryd.func68, Tryd.ntmps68
    go_wp2
    go_ret
    exact ⟨rfl, rfl⟩
theorem specVertex (v : Int) (w : World) :
    Calls Tryd.prog 67 #[.int .i64 v] w (fun e w' => e = .returned (.bool (vtxB v)) ∧ w' = w) := by
  by_cases h : 0 ≤ v
  · have e1 : vtxB v = decide (v < 150) := by unfold vtxB; simp [h]
    rw [e1]
    go_enter Tryd.func67, Tryd.ntmps67
    go_wp2
    go_ret
    exact ⟨rfl, rfl⟩
  · have e1 : vtxB v = false := by unfold vtxB; simp [h]
    rw [e1]
    go_enter Tryd.func67, Tryd.ntmps67
    go_wp2
    go_ret
    exact ⟨rfl, rfl⟩
end Go.Proofs.YtlhcobkncceodaaDoor
namespace Go.Proofs.YtlhcobkncceodaaDoor
open Go.RowKit
@[go_sem] theorem st_nofunc (P : Program) (w : World) (a : Addr) (m : Mode) : (store a .nilFunc m).run P w = stored P w a .nilFunc m := run_store P w a _ m rfl
@[go_sem] theorem st_func (P : Program) (w : World) (a : Addr) (m : Mode) (fn : Fn) (first captured : Array Value) : (store a (.func fn first captured) m).run P w = stored P w a (.func fn first captured) m := run_store P w a _ m rfl
end Go.Proofs.YtlhcobkncceodaaDoor
namespace Go.Proofs.YtlhcobkncceodaaDoor
open Go.RowKit

def prog1 : Array Value := #[.func (.func 75) #[] #[], .func (.func 76) #[] #[], .func (.func 77) #[] #[], .func (.func 78) #[] #[], .func (.func 79) #[] #[]]
def prog2 : Array Value := #[.func (.func 75) #[] #[], .func (.func 80) #[] #[], .func (.func 81) #[] #[], .func (.func 82) #[] #[], .func (.func 83) #[] #[]]
def prog3 : Array Value := #[.func (.func 84) #[] #[], .func (.func 85) #[] #[], .func (.func 81) #[] #[], .func (.func 86) #[] #[], .func (.func 87) #[] #[]]
def prog4 : Array Value := #[.func (.func 75) #[] #[], .func (.func 80) #[] #[], .func (.func 88) #[] #[], .func (.func 89) #[] #[], .func (.func 90) #[] #[]]
def prog0 : Array Value := #[.nilFunc, .nilFunc, .nilFunc, .nilFunc, .nilFunc]
def progAll : Array Value := #[.nilFunc, .nilFunc, .nilFunc, .nilFunc, .nilFunc, .func (.func 75) #[] #[], .func (.func 76) #[] #[], .func (.func 77) #[] #[], .func (.func 78) #[] #[], .func (.func 79) #[] #[], .func (.func 75) #[] #[], .func (.func 80) #[] #[], .func (.func 81) #[] #[], .func (.func 82) #[] #[], .func (.func 83) #[] #[], .func (.func 84) #[] #[], .func (.func 85) #[] #[], .func (.func 81) #[] #[], .func (.func 86) #[] #[], .func (.func 87) #[] #[], .func (.func 75) #[] #[], .func (.func 80) #[] #[], .func (.func 88) #[] #[], .func (.func 89) #[] #[], .func (.func 90) #[] #[]]
theorem wpList_build_is {P : Program} {ops : Array Oper} {rest : List Oper} {o : Oper} {a : Act} {w : World} {Q : Exit → Act → World → Prop} (hg : o.guard = none) (t : TypeId) (parts : Array (Nat × Operand)) (ho : o.op = .build t parts)
    (cells : Array Value) (hf : P.built t (parts.map fun (i, x) => (i, a.eval x)).toList = some cells)
    (h : wpList P ops Q rest (a.put o.dst (.agg cells)) w) : wpList P ops Q (o :: rest) a w :=
  wpList_build hg t parts ho (by rw [hf]; rfl) (by rw [hf]; exact h)
def GivesP (w : World) (v : Array Value) (b : Bool) (e : Ending) (w' : World) : Prop := e = .returned (.tuple #[.agg v, .bool b]) ∧ Below w.heap.size w w'
theorem progAll_store (u : World) : (storeCells ⟨u.heap.size, 0, none⟩ progAll.toList 0).run Tryd.prog (u.alloc (.cells #[.nilFunc, .nilFunc, .nilFunc, .nilFunc, .nilFunc, .nilFunc, .nilFunc, .nilFunc, .nilFunc, .nilFunc, .nilFunc, .nilFunc, .nilFunc, .nilFunc, .nilFunc, .nilFunc, .nilFunc, .nilFunc, .nilFunc, .nilFunc, .nilFunc, .nilFunc, .nilFunc, .nilFunc, .nilFunc] 106)) = .ok () (u.alloc (.cells progAll 106)) := run_storeCells_new u _ _ _ (by kernel_rfl) rfl (by kernel_rfl)

set_option maxRecDepth 20000 in
set_option maxHeartbeats 1000000 in
theorem progOf_1 (w : World) : Calls Tryd.prog 58 #[.int .i64 1] w (GivesP w prog1 true) := by
  have q0 : ∀ h : 5 < progAll.size, progAll[5]'h = .func (.func 75) #[] #[] := fun _ => rfl
  have q1 : ∀ h : 6 < progAll.size, progAll[6]'h = .func (.func 76) #[] #[] := fun _ => rfl
  have q2 : ∀ h : 7 < progAll.size, progAll[7]'h = .func (.func 77) #[] #[] := fun _ => rfl
  have q3 : ∀ h : 8 < progAll.size, progAll[8]'h = .func (.func 78) #[] #[] := fun _ => rfl
  have q4 : ∀ h : 9 < progAll.size, progAll[9]'h = .func (.func 79) #[] #[] := fun _ => rfl
  have hsz : progAll.size = 25 := rfl
  have hsc := progAll_store (w.alloc (.cells #[.nilFunc, .nilFunc, .nilFunc, .nilFunc, .nilFunc] 93))
  rw [World.size_alloc] at hsc
  go_enter Tryd.func58, Tryd.ntmps58
  go_upto_region 3 with fail
  refine wp_region_lit ?_
  refine wpList_build_is rfl _ _ rfl prog1 (by kernel_rfl) ?_
  refine wpList_build_is rfl _ _ rfl prog2 (by kernel_rfl) ?_
  refine wpList_build_is rfl _ _ rfl prog3 (by kernel_rfl) ?_
  refine wpList_build_is rfl _ _ rfl prog4 (by kernel_rfl) ?_
  refine wpList_build_is rfl _ _ rfl progAll (by kernel_rfl) ?_
  (try simp only [Act.put, List.setIfInBounds_toArray, List.set_cons_zero, List.set_cons_succ])
  go_wp2
  refine bodyPost_ret (v := .tuple #[.agg prog1, .bool true]) (by simp [results, Tryd.results58, go_sem, prog1]) rfl ⟨rfl, ?_⟩
  exact below_a2 _ _ _
set_option maxRecDepth 20000 in
set_option maxHeartbeats 1000000 in
theorem progOf_2 (w : World) : Calls Tryd.prog 58 #[.int .i64 2] w (GivesP w prog2 true) := by
  have q0 : ∀ h : 10 < progAll.size, progAll[10]'h = .func (.func 75) #[] #[] := fun _ => rfl
  have q1 : ∀ h : 11 < progAll.size, progAll[11]'h = .func (.func 80) #[] #[] := fun _ => rfl
  have q2 : ∀ h : 12 < progAll.size, progAll[12]'h = .func (.func 81) #[] #[] := fun _ => rfl
  have q3 : ∀ h : 13 < progAll.size, progAll[13]'h = .func (.func 82) #[] #[] := fun _ => rfl
  have q4 : ∀ h : 14 < progAll.size, progAll[14]'h = .func (.func 83) #[] #[] := fun _ => rfl
  have hsz : progAll.size = 25 := rfl
  have hsc := progAll_store (w.alloc (.cells #[.nilFunc, .nilFunc, .nilFunc, .nilFunc, .nilFunc] 93))
  rw [World.size_alloc] at hsc
  go_enter Tryd.func58, Tryd.ntmps58
  go_upto_region 3 with fail
  refine wp_region_lit ?_
  refine wpList_build_is rfl _ _ rfl prog1 (by kernel_rfl) ?_
  refine wpList_build_is rfl _ _ rfl prog2 (by kernel_rfl) ?_
  refine wpList_build_is rfl _ _ rfl prog3 (by kernel_rfl) ?_
  refine wpList_build_is rfl _ _ rfl prog4 (by kernel_rfl) ?_
  refine wpList_build_is rfl _ _ rfl progAll (by kernel_rfl) ?_
  (try simp only [Act.put, List.setIfInBounds_toArray, List.set_cons_zero, List.set_cons_succ])
  go_wp2
  refine bodyPost_ret (v := .tuple #[.agg prog2, .bool true]) (by simp [results, Tryd.results58, go_sem, prog2]) rfl ⟨rfl, ?_⟩
  exact below_a2 _ _ _
set_option maxRecDepth 20000 in
set_option maxHeartbeats 1000000 in
theorem progOf_3 (w : World) : Calls Tryd.prog 58 #[.int .i64 3] w (GivesP w prog3 true) := by
  have q0 : ∀ h : 15 < progAll.size, progAll[15]'h = .func (.func 84) #[] #[] := fun _ => rfl
  have q1 : ∀ h : 16 < progAll.size, progAll[16]'h = .func (.func 85) #[] #[] := fun _ => rfl
  have q2 : ∀ h : 17 < progAll.size, progAll[17]'h = .func (.func 81) #[] #[] := fun _ => rfl
  have q3 : ∀ h : 18 < progAll.size, progAll[18]'h = .func (.func 86) #[] #[] := fun _ => rfl
  have q4 : ∀ h : 19 < progAll.size, progAll[19]'h = .func (.func 87) #[] #[] := fun _ => rfl
  have hsz : progAll.size = 25 := rfl
  have hsc := progAll_store (w.alloc (.cells #[.nilFunc, .nilFunc, .nilFunc, .nilFunc, .nilFunc] 93))
  rw [World.size_alloc] at hsc
  go_enter Tryd.func58, Tryd.ntmps58
  go_upto_region 3 with fail
  refine wp_region_lit ?_
  refine wpList_build_is rfl _ _ rfl prog1 (by kernel_rfl) ?_
  refine wpList_build_is rfl _ _ rfl prog2 (by kernel_rfl) ?_
  refine wpList_build_is rfl _ _ rfl prog3 (by kernel_rfl) ?_
  refine wpList_build_is rfl _ _ rfl prog4 (by kernel_rfl) ?_
  refine wpList_build_is rfl _ _ rfl progAll (by kernel_rfl) ?_
  (try simp only [Act.put, List.setIfInBounds_toArray, List.set_cons_zero, List.set_cons_succ])
  go_wp2
  refine bodyPost_ret (v := .tuple #[.agg prog3, .bool true]) (by simp [results, Tryd.results58, go_sem, prog3]) rfl ⟨rfl, ?_⟩
  exact below_a2 _ _ _
set_option maxRecDepth 20000 in
set_option maxHeartbeats 1000000 in
theorem progOf_4 (w : World) : Calls Tryd.prog 58 #[.int .i64 4] w (GivesP w prog4 true) := by
  have q0 : ∀ h : 20 < progAll.size, progAll[20]'h = .func (.func 75) #[] #[] := fun _ => rfl
  have q1 : ∀ h : 21 < progAll.size, progAll[21]'h = .func (.func 80) #[] #[] := fun _ => rfl
  have q2 : ∀ h : 22 < progAll.size, progAll[22]'h = .func (.func 88) #[] #[] := fun _ => rfl
  have q3 : ∀ h : 23 < progAll.size, progAll[23]'h = .func (.func 89) #[] #[] := fun _ => rfl
  have q4 : ∀ h : 24 < progAll.size, progAll[24]'h = .func (.func 90) #[] #[] := fun _ => rfl
  have hsz : progAll.size = 25 := rfl
  have hsc := progAll_store (w.alloc (.cells #[.nilFunc, .nilFunc, .nilFunc, .nilFunc, .nilFunc] 93))
  rw [World.size_alloc] at hsc
  go_enter Tryd.func58, Tryd.ntmps58
  go_upto_region 3 with fail
  refine wp_region_lit ?_
  refine wpList_build_is rfl _ _ rfl prog1 (by kernel_rfl) ?_
  refine wpList_build_is rfl _ _ rfl prog2 (by kernel_rfl) ?_
  refine wpList_build_is rfl _ _ rfl prog3 (by kernel_rfl) ?_
  refine wpList_build_is rfl _ _ rfl prog4 (by kernel_rfl) ?_
  refine wpList_build_is rfl _ _ rfl progAll (by kernel_rfl) ?_
  (try simp only [Act.put, List.setIfInBounds_toArray, List.set_cons_zero, List.set_cons_succ])
  go_wp2
  refine bodyPost_ret (v := .tuple #[.agg prog4, .bool true]) (by simp [results, Tryd.results58, go_sem, prog4]) rfl ⟨rfl, ?_⟩
  exact below_a2 _ _ _
set_option maxHeartbeats 1000000 in
theorem progOf_no (p : Int) (h : p < 1 ∨ 4 < p) (w : World) : Calls Tryd.prog 58 #[.int .i64 p] w (GivesP w prog0 false) := by
  by_cases h1 : p < 1
  · clear h
    go_enter Tryd.func58, Tryd.ntmps58
    go_wp2
    refine bodyPost_ret (v := .tuple #[.agg prog0, .bool false]) (by simp [results, Tryd.results58, go_sem, prog0]) rfl ⟨rfl, ?_⟩
    exact below_a1 _ _
  · have h2 : 4 < p := by omega
    clear h
    go_enter Tryd.func58, Tryd.ntmps58
    go_wp2
    refine bodyPost_ret (v := .tuple #[.agg prog0, .bool false]) (by simp [results, Tryd.results58, go_sem, prog0]) rfl ⟨rfl, ?_⟩
    exact below_a1 _ _

theorem src_no (n s : Int) (w : World) : Calls Tryd.prog 75 #[.int .i64 n, .int .i64 s] w (fun e w' => e = .returned (.bool (decide (s = 0))) ∧ w' = w) := by
  go_enter Tryd.func75, Tryd.ntmps75
  go_wp2
  go_ret
  exact ⟨rfl, rfl⟩
theorem val_1 (s v : Int) (w : World) : Calls Tryd.prog 76 #[.int .i64 s, .int .i64 v] w (fun e w' => e = .returned (.int .i64 1048576) ∧ w' = w) := by
  go_enter Tryd.func76, Tryd.ntmps76
  go_wp2
  go_ret
  exact ⟨rfl, rfl⟩
theorem val_24 (s v : Int) (w : World) : Calls Tryd.prog 80 #[.int .i64 s, .int .i64 v] w (fun e w' => e = .returned (.int .i64 v) ∧ w' = w) := by
  go_enter Tryd.func80, Tryd.ntmps80
  go_wp2
  go_ret
  exact ⟨rfl, rfl⟩
theorem edge_23 (f t d : Int) (w : World) : Calls Tryd.prog 81 #[.int .i64 f, .int .i64 t, .int .i64 d] w (fun e w' => e = .returned (.int .i64 1099511627776) ∧ w' = w) := by
  go_enter Tryd.func81, Tryd.ntmps81
  go_wp2
  go_ret
  exact ⟨rfl, rfl⟩
theorem src_3 (n s : Int) (w : World) : Calls Tryd.prog 84 #[.int .i64 n, .int .i64 s] w (fun e w' => e = .returned (.bool (decide (0 ≤ s) && decide (s < n))) ∧ w' = w) := by
  by_cases h : 0 ≤ s
  · have e1 : (decide (0 ≤ s) && decide (s < n)) = decide (s < n) := by simp [h]
    rw [e1]
    go_enter Tryd.func84, Tryd.ntmps84
    go_wp2
    go_ret
    exact ⟨rfl, rfl⟩
  · have e1 : (decide (0 ≤ s) && decide (s < n)) = false := by simp [h]
    rw [e1]
    go_enter Tryd.func84, Tryd.ntmps84
    go_wp2
    go_ret
    exact ⟨rfl, rfl⟩
theorem val_3 (s v : Int) (w : World) : Calls Tryd.prog 85 #[.int .i64 s, .int .i64 v] w (fun e w' => e = .returned (.int .i64 (if v = s then 0 else 1099511627776)) ∧ w' = w) := by
  by_cases h : v = s
  · rw [if_pos h]
    subst h
    go_enter Tryd.func85, Tryd.ntmps85
    go_wp2
    go_ret
    exact ⟨rfl, rfl⟩
  · rw [if_neg h]
    have h2 : (v == s) = false := by simp [h]
    go_enter Tryd.func85, Tryd.ntmps85
    go_wp2
    go_ret
    exact ⟨rfl, rfl⟩
theorem edge_1 (f t d : Int) (w : World) (h : 1 ≤ d) : Calls Tryd.prog 77 #[.int .i64 f, .int .i64 t, .int .i64 d] w (fun e w' => e = .returned (.int .i64 (Int.tdiv 1048576 d)) ∧ w' = w) := by
  have h0 : d ≠ 0 := by omega
  have h1 : (d == 0) = false := by simp [h0]
  have h2 : IntKind.i64.wrap (Int.tdiv 1048576 d) = Int.tdiv 1048576 d := IntWalk.i64_in _ (by rw [Int.tdiv_eq_ediv_of_nonneg (by omega)]; have := Int.ediv_nonneg (a := 1048576) (b := d) (by omega) (by omega); have := Int.ediv_le_self (a := 1048576) d (by omega); omega)
  go_enter Tryd.func77, Tryd.ntmps77
  go_wp2
  go_ret
  exact ⟨rfl, rfl⟩
theorem edge_4 (f t d : Int) (w : World) (hf : 0 ≤ f ∧ f < 150) (ht : 0 ≤ t ∧ t < 150) : Calls Tryd.prog 88 #[.int .i64 f, .int .i64 t, .int .i64 d] w (fun e w' => e = .returned (.int .i64 (f * 1000 + t)) ∧ w' = w) := by
  have h1 : IntKind.i64.wrap (f * 1000) = f * 1000 := IntWalk.i64_in _ (by omega)
  have h2 : IntKind.i64.wrap (f * 1000 + t) = f * 1000 + t := IntWalk.i64_in _ (by omega)
  go_enter Tryd.func88, Tryd.ntmps88
  go_wp2
  go_ret
  exact ⟨rfl, rfl⟩
end Go.Proofs.YtlhcobkncceodaaDoor
