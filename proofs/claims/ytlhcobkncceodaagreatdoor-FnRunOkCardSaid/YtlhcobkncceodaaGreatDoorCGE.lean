/- What stands while the model updates a vertex of a run: the run's block and the present set's block of its own, whose bits are made anew (plain lemmas over the model; no condition). // What stands while the model iterates a run: a run in a block, the present set in a block, whose rows are made anew by each vertex (plain lemmas over the model; no condition). // The contracts of the program's AddCap, isVertex, isValue and of the model's like ones. No condition. // Storing a function value or none into a cell (plain lemmas over the model; no condition). // The contracts of the program's programOf (what a number's program is made of) and of its small functions. No condition but that a divisor is not 0. // The contracts of the program's JobOk, FirstVal and FirstEdge. Condition: the arguments are numbers of 64 bits. // The contracts of the program's new values (ranks, components, distances), of its count of Out edges and of its test of views. Condition: at most 2^21 views. // The contracts of the model's new values (ranks, components and distances). Condition: at most 2^21 views. -/
import Derived.Test.YtlhcobkncceodaaGreatDoorCGD
import Derived.Test.YtlhcobkncceodaaGreatDoorCGA
import Derived.Test.YtlhcobkncceodaaGreatDoorCGB
import Derived.Deep.DeepCutAuto
import Derived.Deep.WholeRow
import Derived.Laws.Tables
namespace Go.Proofs.YtlhcobkncceodaaGreatDoor
open Go.RowKit
set_option linter.unusedVariables false

/-- What else it holds. -/
structure MAux (L : Nat) (w : World) (g1 z1 z2 : Array Value) (t1 : TypeId) (N : Int) (D : Option Addr) (q e : Nat) (A1 : Option Addr) (c1 : Nat) (A2 : Option Addr) (c2 : Nat) (A3 : Option Addr) (c3 : Nat) (es : List VE) (is : List Nat) (ys : List Int) : Prop where
  u : UAux L w L (L + 3) g1 z1 t1 32 A1 c1 A2 c2 A3 c3 es is ys
  z : Blk w (L + 4) z2 30
  n : Blk w (L + 2) #[.int .i64 N, .slice D q e] 30
section
variable {L b1 b2 : Nat} {w w' : World} {g1 g2 z1 z2 : Array Value} {t1 t2 : TypeId} {N : Int} {D D' : Option Addr} {q e q' e' : Nat} {A1 A2 A3 : Option Addr} {c1 c2 c3 : Nat} {es : List VE} {is : List Nat} {ys : List Int}
theorem MAux.below (h : MAux L w g1 z1 z2 t1 N D q e A1 c1 A2 c2 A3 c3 es is ys) (hb : Below w.heap.size w w') : MAux L w' g1 z1 z2 t1 N D q e A1 c1 A2 c2 A3 c3 es is ys := ⟨h.u.below hb, h.z.below hb, h.n.below hb⟩
theorem MAux.drewN (h : MAux L w g1 z1 z2 t1 N D q e A1 c1 A2 c2 A3 c3 es is ys) (k : Nat) : MAux L (w.drewN k) g1 z1 z2 t1 N D q e A1 c1 A2 c2 A3 c3 es is ys := h.below (below_drewN (Below.refl _ _) k)
theorem MAux.grown (h : MAux L w g1 z1 z2 t1 N D q e A1 c1 A2 c2 A3 c3 es is ys) {row : Option Nat} (hg : w.grownBy w' row) (hr : ∀ g, row = some g → g < L) : MAux L w' g1 z1 z2 t1 N D q e A1 c1 A2 c2 A3 c3 es is ys :=
  ⟨h.u.grown hg hr, h.z.grown hg (fun e => by have := hr _ e; omega), h.n.grown hg (fun e => by have := hr _ e; omega)⟩
/-- Another block of its own is written, one of another type than the rows'. -/
theorem UAux.apart (h : UAux L w b1 b2 g1 g2 t1 t2 A1 c1 A2 c2 A3 c3 es is ys) {g : Nat} {cs : Array Value} {t : TypeId} (hg : w.grownBy w' (some g)) (hb : Blk w g cs t) (h1 : b1 ≠ g) (h2 : b2 ≠ g) (hv : 93 ≠ t) (hi : 3 ≠ t) : UAux L w' b1 b2 g1 g2 t1 t2 A1 c1 A2 c2 A3 c3 es is ys :=
  ⟨h.bg.grown hg (fun e => h1 (by injection e with e; exact e.symm)), h.bn.grown hg (fun e => h2 (by injection e with e; exact e.symm)), h.l1, h.l2, own_kept h.ov hg (own_kind h.ov hb hv), own_kept h.oi hg (own_kind h.oi hb hi), own_kept h.oy hg (own_kind h.oy hb hi)⟩
theorem set2_grown (w : World) (b i k : Nat) (u v : Value) : w.grownBy ((w.setCell ⟨b, i, none⟩ u).setCell ⟨b, k, none⟩ v) (some b) := (grown_cell w b i u).trans (grown_cell _ b k v)
theorem MAux.setNow (h : MAux L w g1 z1 z2 t1 N D q e A1 c1 A2 c2 A3 c3 es is ys) : MAux L ((w.setCell ⟨L + 2, 0, none⟩ (.int .i64 N)).setCell ⟨L + 2, 1, none⟩ (.slice D' q' e')) g1 z1 z2 t1 N D' q' e' A1 c1 A2 c2 A3 c3 es is ys := by
  have hg := set2_grown w (L + 2) 0 1 (.int .i64 N) (.slice D' q' e')
  exact ⟨h.u.apart hg h.n (by omega) (by omega) (by decide) (by decide), h.z.grown hg (by intro e; injection e with e; omega), Blk.set (Blk.set h.n 0 (.int .i64 N)) 1 (.slice D' q' e')⟩
theorem MAux.setNext (h : MAux L w g1 z1 z2 t1 N D q e A1 c1 A2 c2 A3 c3 es is ys) {cs : Array Value} (hb : Blk w (L + 1) cs 32) (u v : Value) : MAux L ((w.setCell ⟨L + 1, 6, none⟩ u).setCell ⟨L + 1, 7, none⟩ v) g1 z1 z2 t1 N D q e A1 c1 A2 c2 A3 c3 es is ys := by
  have hg := set2_grown w (L + 1) 6 7 u v
  exact ⟨h.u.apart hg hb (by omega) (by omega) (by decide) (by decide), h.z.grown hg (by intro e; injection e with e; omega), h.n.grown hg (by intro e; injection e with e; omega)⟩
end
section
variable {w0 w w' : World} {b n c m d j k q e j' k' q' e' : Nat} {p s it nn : Int} {dn : Bool} {A B C D C' D' : Option Addr} {vs ev : List Int} {nx nw zs : List Nat}
/-- A block of another type is written. -/
theorem USt.past (h : USt w0 w b p s it dn A n c B m d nn C j k D q e vs ev nx nw) {g : Nat} {cs : Array Value} {t : TypeId} (hg : w.grownBy w' (some g)) (hb : Blk w g cs t) (hlg : w0.heap.size ≤ g) (hne : g ≠ b) (hi : 3 ≠ t) (hu : 5 ≠ t) : USt w0 w' b p s it dn A n c B m d nn C j k D q e vs ev nx nw :=
  ⟨h.r.other hg hne (own_kind h.r.v hb hi) (own_kind h.r.e hb hi) (own_kind h.r.x hb hu), own_kept h.d hg (own_kind h.d hb hu), h.ap, h.h.grown hg h.h.size (fun i hi => by injection hi with hi; omega)⟩
theorem USt.setNow (h : USt w0 w b p s it dn A n c B m d nn C j k D q e vs ev nx nw) {g : Nat} {cs : Array Value} {N : Int} (hb : Blk w g cs 30) (hlg : w0.heap.size ≤ g) (hne : g ≠ b) (hd : w.ownsRow w0.heap.size 5 1 (.slice D' q' e') q' (vb zs)) (ap : (Value.slice C j k).ownBlock = none ∨ (Value.slice D' q' e').ownBlock ≠ (Value.slice C j k).ownBlock) :
    USt w0 ((w.setCell ⟨g, 0, none⟩ (.int .i64 N)).setCell ⟨g, 1, none⟩ (.slice D' q' e')) b p s it dn A n c B m d nn C j k D' q' e' vs ev nx zs := by
  have hg := (grown_cell w g 0 (.int .i64 N)).trans (grown_cell (w.setCell ⟨g, 0, none⟩ (.int .i64 N)) g 1 (.slice D' q' e'))
  exact ⟨h.r.other hg hne (own_kind h.r.v hb (by decide)) (own_kind h.r.e hb (by decide)) (own_kind h.r.x hb (by decide)), own_kept hd hg (own_kind hd hb (by decide)), ap, h.h.grown hg h.h.size (fun i hi => by injection hi with hi; omega)⟩
theorem USt.setNext (h : USt w0 w b p s it dn A n c B m d nn C j k D q e vs ev nx nw) (hd : w.ownsRow w0.heap.size 5 1 (.slice C' j' k') j' (vb zs)) (ap : (Value.slice C' j' k').ownBlock = none ∨ (Value.slice D q e).ownBlock ≠ (Value.slice C' j' k').ownBlock) :
    USt w0 ((w.setCell ⟨b, 6, none⟩ (.int .i64 nn)).setCell ⟨b, 7, none⟩ (.slice C' j' k')) b p s it dn A n c B m d nn C' j' k' D q e vs ev zs nw := by
  have hg := (grown_cell w b 6 (.int .i64 nn)).trans (grown_cell (w.setCell ⟨b, 6, none⟩ (.int .i64 nn)) b 7 (.slice C' j' k'))
  exact ⟨⟨Blk.set (Blk.set h.r.bx 6 (.int .i64 nn)) 7 (.slice C' j' k'), own_kept h.r.v hg (own_kind h.r.v h.r.bx (by decide)), own_kept h.r.e hg (own_kind h.r.e h.r.bx (by decide)), own_kept hd hg (own_kind hd h.r.bx (by decide)), h.r.ap, h.r.lb⟩, own_kept h.d hg (own_kind h.d h.r.bx (by decide)), ap, h.h.grown hg h.h.size (fun i hi => by injection hi with hi; have := h.r.lb; omega)⟩
end
/-- The blocks that it writes, of those that were there. -/
def abBlk (A : Option Addr) (n c : Nat) (B : Option Addr) (m d : Nat) (g : Nat) : Prop := (Value.slice A n c).ownBlock = some g ∨ (Value.slice B m d).ownBlock = some g
/-- What the model's update of a vertex answers. -/
def MadeVt (w0 w : World) (p s it : Int) (dn : Bool) (A : Option Addr) (n c : Nat) (B : Option Addr) (m d : Nat) (nn N : Int) (T : SD) (r : Ending) (w' : World) : Prop :=
  ∃ C j k D q e, r = .returned (.tuple #[.agg #[.int .i64 p, .int .i64 s, .int .i64 it, .bool dn, .slice A n c, .slice B m d, .int .i64 nn, .slice C j k], .agg #[.int .i64 N, .slice D q e]]) ∧ Rows3 w' w0.heap.size A n c B m d C j k T.vs T.ev T.nx ∧ w'.ownsRow w0.heap.size 5 1 (.slice D q e) q (vb T.nw) ∧ ((Value.slice C j k).ownBlock = none ∨ (Value.slice D q e).ownBlock ≠ (Value.slice C j k).ownBlock) ∧ Below w0.heap.size w0 w' ∧ OnlyB (abBlk A n c B m d) w w'
end Go.Proofs.YtlhcobkncceodaaGreatDoor
namespace Go.Proofs.YtlhcobkncceodaaGreatDoor
open Go.RowKit
set_option linter.unusedVariables false

section
variable {w0 w : World} {lo b n c m d j k q e : Nat} {p s it nn : Int} {dn : Bool} {A B C D : Option Addr} {vs ev : List Int} {nx nw : List Nat} {y0 y1 y2 y3 y4 y5 y6 y7 : Value}
/-- A run is stored whole. -/
theorem RSt.lay (hb : Blk w b #[y0, y1, y2, y3, y4, y5, y6, y7] 32) (hl : lo ≤ b) (hr : Rows3 w lo A n c B m d C j k vs ev nx) :
    RSt (layR w b (.int .i64 p) (.int .i64 s) (.int .i64 it) (.bool dn) (.slice A n c) (.slice B m d) (.int .i64 nn) (.slice C j k)) lo b p s it dn A n c B m d nn C j k vs ev nx := by
  have hg := layR_grown w b (.int .i64 p) (.int .i64 s) (.int .i64 it) (.bool dn) (.slice A n c) (.slice B m d) (.int .i64 nn) (.slice C j k)
  exact ⟨layR_blk hb, own_kept hr.v hg (own_kind hr.v hb (by decide)), own_kept hr.e hg (own_kind hr.e hb (by decide)), own_kept hr.x hg (own_kind hr.x hb (by decide)), hr.ap, hl⟩
theorem USt.lay (hb : Blk w b #[y0, y1, y2, y3, y4, y5, y6, y7] 32) (hl : w0.heap.size ≤ b) (hr : Rows3 w w0.heap.size A n c B m d C j k vs ev nx) (hd : w.ownsRow w0.heap.size 5 1 (.slice D q e) q (vb nw)) (ap : (Value.slice C j k).ownBlock = none ∨ (Value.slice D q e).ownBlock ≠ (Value.slice C j k).ownBlock) (h : Below w0.heap.size w0 w) :
    USt w0 (layR w b (.int .i64 p) (.int .i64 s) (.int .i64 it) (.bool dn) (.slice A n c) (.slice B m d) (.int .i64 nn) (.slice C j k)) b p s it dn A n c B m d nn C j k D q e vs ev nx nw := by
  have hg := layR_grown w b (.int .i64 p) (.int .i64 s) (.int .i64 it) (.bool dn) (.slice A n c) (.slice B m d) (.int .i64 nn) (.slice C j k)
  exact ⟨RSt.lay hb hl hr, own_kept hd hg (own_kind hd hb (by decide)), ap, h.grown hg h.size (fun i hi => by injection hi with hi; omega)⟩
/-- A run that has just been made stands in a block made behind it. -/
theorem RSt.made (hr : Rows3 w lo A n c B m d C j k vs ev nx) (hl : lo ≤ w.heap.size) :
    RSt (w.alloc (.cells #[.int .i64 p, .int .i64 s, .int .i64 it, .bool dn, .slice A n c, .slice B m d, .int .i64 nn, .slice C j k] 32)) lo w.heap.size p s it dn A n c B m d nn C j k vs ev nx :=
  let hb := below_a1 w (.cells #[.int .i64 p, .int .i64 s, .int .i64 it, .bool dn, .slice A n c, .slice B m d, .int .i64 nn, .slice C j k] 32)
  ⟨Blk.new w _ _, own_below hr.v hb, own_below hr.e hb, own_below hr.x hb, hr.ap, hl⟩
/-- Neither block of an update is one that holds no row. -/
theorem abBlk_not {g : Nat} {cs : Array Value} {t : TypeId} (hr : Rows3 w lo A n c B m d C j k vs ev nx) (hb : Blk w g cs t) (hi : 3 ≠ t) : ¬ abBlk A n c B m d g := by
  rintro (h | h)
  · exact own_kind hr.v hb hi h
  · exact own_kind hr.e hb hi h
end
end Go.Proofs.YtlhcobkncceodaaGreatDoor
namespace Go.Proofs.YtlhcobkncceodaaGreatDoor
open Go.RowKit

theorem implAddCap (a b : Int) (w : World) :
    Calls Tryz.prog 136 #[.int .i64 a, .int .i64 b] w (fun e w' => e = .returned (.int .i64 (addC a b)) ∧ w' = w) := by
  have hA : addC a b = min (min (max a 0) 1099511627776 + min (max b 0) 1099511627776) 1099511627776 := rfl
  have H := Lib.hid hA
  obtain ⟨x, hx⟩ : ∃ x, x = min (max a 0) 1099511627776 := ⟨_, rfl⟩
  obtain ⟨y, hy⟩ : ∃ y, y = min (max b 0) 1099511627776 := ⟨_, rfl⟩
  have h0 : 0 ≤ x ∧ x ≤ 1099511627776 := by omega
  have h1 : 0 ≤ y ∧ y ≤ 1099511627776 := by omega
  have HX := Lib.hid hx
  have HY := Lib.hid hy
  have hx' := hx.symm
  have hy' := hy.symm
  have hw : IntKind.i64.wrap (x + y) = x + y := IntWalk.i64_in _ (by omega)
  clear hA hx hy
  go_enter Tryz.func136, Tryz.ntmps136
  go_wp2
  all_goals
    go_ret
    exact ⟨g_int (by have h1 := H.out; have h2 := HX.out; have h3 := HY.out; omega), rfl⟩
theorem implIsVertex (v : Int) (w : World) :
    Calls Tryz.prog 133 #[.int .i64 v] w (fun e w' => e = .returned (.bool (vtxB v)) ∧ w' = w) := by
  by_cases h : 0 ≤ v
  · have e1 : vtxB v = decide (v < 150) := by unfold vtxB; simp [h]
    rw [e1]
    go_enter Tryz.func133, Tryz.ntmps133
    go_wp2
    go_ret
    exact ⟨rfl, rfl⟩
  · have e1 : vtxB v = false := by unfold vtxB; simp [h]
    rw [e1]
    go_enter Tryz.func133, Tryz.ntmps133
    go_wp2
    go_ret
    exact ⟨rfl, rfl⟩
theorem implIsValue (v : Int) (w : World) :
    Calls Tryz.prog 93 #[.int .i64 v] w (fun e w' => e = .returned (.bool (valB v)) ∧ w' = w) := by
  by_cases h : 0 ≤ v
  · have e1 : valB v = decide (v ≤ 1099511627776) := by unfold valB; simp [h]
    rw [e1]
    go_enter Tryz.func93, Tryz.ntmps93
    go_wp2
    go_ret
    exact ⟨rfl, rfl⟩
  · have e1 : valB v = false := by unfold valB; simp [h]
    rw [e1]
    go_enter Tryz.func93, Tryz.ntmps93
    go_wp2
    go_ret
    exact ⟨rfl, rfl⟩
theorem specVertex (v : Int) (w : World) :
    Calls Tryz.prog 129 #[.int .i64 v] w (fun e w' => e = .returned (.bool (vtxB v)) ∧ w' = w) := by
  by_cases h : 0 ≤ v
  · have e1 : vtxB v = decide (v < 150) := by unfold vtxB; simp [h]
    rw [e1]
    go_enter Tryz.func129, Tryz.ntmps129
    go_wp2
    go_ret
    exact ⟨rfl, rfl⟩
  · have e1 : vtxB v = false := by unfold vtxB; simp [h]
    rw [e1]
    go_enter Tryz.func129, Tryz.ntmps129
    go_wp2
    go_ret
    exact ⟨rfl, rfl⟩
theorem specClampF (v : Int) (w : World) :
    Calls Tryz.prog 146 #[.int .i64 v, .int .i64 1099511627776] w (fun e w' => e = .returned (.int .i64 (capF v)) ∧ w' = w) := by
  have hA : capF v = min (max v 0) 1099511627776 := rfl
  have H := Lib.hid hA
  clear hA
  by_cases h : v < 0
  · go_enter Tryz.func146, Tryz.ntmps146
    go_wp2
    go_ret
    exact ⟨g_int (by have h1 := H.out; omega), rfl⟩
  · by_cases h2 : 1099511627776 < v
    · go_enter Tryz.func146, Tryz.ntmps146
      go_wp2
      go_ret
      exact ⟨g_int (by have h1 := H.out; omega), rfl⟩
    · go_enter Tryz.func146, Tryz.ntmps146
      go_wp2
      go_ret
      exact ⟨g_int (by have h1 := H.out; omega), rfl⟩
theorem specCap (v : Int) (w : World) :
    Calls Tryz.prog 143 #[.int .i64 v] w (fun e w' => e = .returned (.int .i64 (capF v)) ∧ w' = w) := by
  have C := Lib.hid (specClampF v w)
  go_enter Tryz.func143, Tryz.ntmps143
  go_wp2_with fail
  refine C.out.mono ?_
  rintro e w1 ⟨rfl, rfl⟩
  go_wp2
  go_ret
  exact ⟨rfl, rfl⟩
theorem specAddCap (a b : Int) (w : World) :
    Calls Tryz.prog 142 #[.int .i64 a, .int .i64 b] w (fun e w' => e = .returned (.int .i64 (addC a b)) ∧ w' = w) := by
  have C := Lib.hid (fun v w => specCap v w)
  have h0 := capF_lim a
  have h1 := capF_lim b
  rw [← addC_cap a b]
  generalize hx : capF a = x at h0
  generalize hy : capF b = y at h1
  have HX := Lib.hid hx
  have HY := Lib.hid hy
  clear hx hy
  have hw : IntKind.i64.wrap (x + y) = x + y := IntWalk.i64_in _ (by omega)
  go_enter Tryz.func142, Tryz.ntmps142
  go_wp2_with fail
  refine (C.out a _).mono ?_
  rw [HX.out]
  rintro e w1 ⟨rfl, rfl⟩
  go_wp2_with fail
  refine (C.out b _).mono ?_
  rw [HY.out]
  rintro e w1 ⟨rfl, rfl⟩
  go_wp2_with fail
  refine (C.out (x + y) _).mono ?_
  rintro e w1 ⟨rfl, rfl⟩
  go_wp2
  go_ret
  exact ⟨rfl, rfl⟩
end Go.Proofs.YtlhcobkncceodaaGreatDoor
namespace Go.Proofs.YtlhcobkncceodaaGreatDoor
open Go.RowKit
@[go_sem] theorem st_nofunc (P : Program) (w : World) (a : Addr) (m : Mode) : (store a .nilFunc m).run P w = stored P w a .nilFunc m := run_store P w a _ m rfl
@[go_sem] theorem st_func (P : Program) (w : World) (a : Addr) (m : Mode) (fn : Fn) (first captured : Array Value) : (store a (.func fn first captured) m).run P w = stored P w a (.func fn first captured) m := run_store P w a _ m rfl
end Go.Proofs.YtlhcobkncceodaaGreatDoor
namespace Go.Proofs.YtlhcobkncceodaaGreatDoor
open Go.RowKit

def prog1 : Array Value := #[.func (.func 111) #[] #[], .func (.func 112) #[] #[], .func (.func 113) #[] #[], .func (.func 114) #[] #[], .func (.func 115) #[] #[]]
def prog2 : Array Value := #[.func (.func 111) #[] #[], .func (.func 116) #[] #[], .func (.func 117) #[] #[], .func (.func 118) #[] #[], .func (.func 119) #[] #[]]
def prog3 : Array Value := #[.func (.func 120) #[] #[], .func (.func 121) #[] #[], .func (.func 117) #[] #[], .func (.func 122) #[] #[], .func (.func 123) #[] #[]]
def prog4 : Array Value := #[.func (.func 111) #[] #[], .func (.func 116) #[] #[], .func (.func 124) #[] #[], .func (.func 125) #[] #[], .func (.func 126) #[] #[]]
def prog0 : Array Value := #[.nilFunc, .nilFunc, .nilFunc, .nilFunc, .nilFunc]
def progAll : Array Value := #[.nilFunc, .nilFunc, .nilFunc, .nilFunc, .nilFunc, .func (.func 111) #[] #[], .func (.func 112) #[] #[], .func (.func 113) #[] #[], .func (.func 114) #[] #[], .func (.func 115) #[] #[], .func (.func 111) #[] #[], .func (.func 116) #[] #[], .func (.func 117) #[] #[], .func (.func 118) #[] #[], .func (.func 119) #[] #[], .func (.func 120) #[] #[], .func (.func 121) #[] #[], .func (.func 117) #[] #[], .func (.func 122) #[] #[], .func (.func 123) #[] #[], .func (.func 111) #[] #[], .func (.func 116) #[] #[], .func (.func 124) #[] #[], .func (.func 125) #[] #[], .func (.func 126) #[] #[]]
theorem wpList_build_is {P : Program} {ops : Array Oper} {rest : List Oper} {o : Oper} {a : Act} {w : World} {Q : Exit → Act → World → Prop} (hg : o.guard = none) (t : TypeId) (parts : Array (Nat × Operand)) (ho : o.op = .build t parts)
    (cells : Array Value) (hf : P.built t (parts.map fun (i, x) => (i, a.eval x)).toList = some cells)
    (h : wpList P ops Q rest (a.put o.dst (.agg cells)) w) : wpList P ops Q (o :: rest) a w :=
  wpList_build hg t parts ho (by rw [hf]; rfl) (by rw [hf]; exact h)
def GivesP (w : World) (v : Array Value) (b : Bool) (e : Ending) (w' : World) : Prop := e = .returned (.tuple #[.agg v, .bool b]) ∧ Below w.heap.size w w'
theorem progAll_store (u : World) : (storeCells ⟨u.heap.size, 0, none⟩ progAll.toList 0).run Tryz.prog (u.alloc (.cells #[.nilFunc, .nilFunc, .nilFunc, .nilFunc, .nilFunc, .nilFunc, .nilFunc, .nilFunc, .nilFunc, .nilFunc, .nilFunc, .nilFunc, .nilFunc, .nilFunc, .nilFunc, .nilFunc, .nilFunc, .nilFunc, .nilFunc, .nilFunc, .nilFunc, .nilFunc, .nilFunc, .nilFunc, .nilFunc] 141)) = .ok () (u.alloc (.cells progAll 141)) := run_storeCells_new u _ _ _ (by kernel_rfl) rfl (by kernel_rfl)

set_option maxRecDepth 20000 in
set_option maxHeartbeats 1000000 in
theorem progOf_1 (w : World) : Calls Tryz.prog 90 #[.int .i64 1] w (GivesP w prog1 true) := by
  have q0 : ∀ h : 5 < progAll.size, progAll[5]'h = .func (.func 111) #[] #[] := fun _ => rfl
  have q1 : ∀ h : 6 < progAll.size, progAll[6]'h = .func (.func 112) #[] #[] := fun _ => rfl
  have q2 : ∀ h : 7 < progAll.size, progAll[7]'h = .func (.func 113) #[] #[] := fun _ => rfl
  have q3 : ∀ h : 8 < progAll.size, progAll[8]'h = .func (.func 114) #[] #[] := fun _ => rfl
  have q4 : ∀ h : 9 < progAll.size, progAll[9]'h = .func (.func 115) #[] #[] := fun _ => rfl
  have hsz : progAll.size = 25 := rfl
  have hsc := progAll_store (w.alloc (.cells #[.nilFunc, .nilFunc, .nilFunc, .nilFunc, .nilFunc] 121))
  rw [World.size_alloc] at hsc
  go_enter Tryz.func90, Tryz.ntmps90
  go_upto_region 3 with fail
  refine wp_region_lit ?_
  refine wpList_build_is rfl _ _ rfl prog1 (by kernel_rfl) ?_
  refine wpList_build_is rfl _ _ rfl prog2 (by kernel_rfl) ?_
  refine wpList_build_is rfl _ _ rfl prog3 (by kernel_rfl) ?_
  refine wpList_build_is rfl _ _ rfl prog4 (by kernel_rfl) ?_
  refine wpList_build_is rfl _ _ rfl progAll (by kernel_rfl) ?_
  (try simp only [Act.put, List.setIfInBounds_toArray, List.set_cons_zero, List.set_cons_succ])
  go_wp2
  refine bodyPost_ret (v := .tuple #[.agg prog1, .bool true]) (by simp [results, Tryz.results90, go_sem, prog1]) rfl ⟨rfl, ?_⟩
  exact below_a2 _ _ _
set_option maxRecDepth 20000 in
set_option maxHeartbeats 1000000 in
theorem progOf_2 (w : World) : Calls Tryz.prog 90 #[.int .i64 2] w (GivesP w prog2 true) := by
  have q0 : ∀ h : 10 < progAll.size, progAll[10]'h = .func (.func 111) #[] #[] := fun _ => rfl
  have q1 : ∀ h : 11 < progAll.size, progAll[11]'h = .func (.func 116) #[] #[] := fun _ => rfl
  have q2 : ∀ h : 12 < progAll.size, progAll[12]'h = .func (.func 117) #[] #[] := fun _ => rfl
  have q3 : ∀ h : 13 < progAll.size, progAll[13]'h = .func (.func 118) #[] #[] := fun _ => rfl
  have q4 : ∀ h : 14 < progAll.size, progAll[14]'h = .func (.func 119) #[] #[] := fun _ => rfl
  have hsz : progAll.size = 25 := rfl
  have hsc := progAll_store (w.alloc (.cells #[.nilFunc, .nilFunc, .nilFunc, .nilFunc, .nilFunc] 121))
  rw [World.size_alloc] at hsc
  go_enter Tryz.func90, Tryz.ntmps90
  go_upto_region 3 with fail
  refine wp_region_lit ?_
  refine wpList_build_is rfl _ _ rfl prog1 (by kernel_rfl) ?_
  refine wpList_build_is rfl _ _ rfl prog2 (by kernel_rfl) ?_
  refine wpList_build_is rfl _ _ rfl prog3 (by kernel_rfl) ?_
  refine wpList_build_is rfl _ _ rfl prog4 (by kernel_rfl) ?_
  refine wpList_build_is rfl _ _ rfl progAll (by kernel_rfl) ?_
  (try simp only [Act.put, List.setIfInBounds_toArray, List.set_cons_zero, List.set_cons_succ])
  go_wp2
  refine bodyPost_ret (v := .tuple #[.agg prog2, .bool true]) (by simp [results, Tryz.results90, go_sem, prog2]) rfl ⟨rfl, ?_⟩
  exact below_a2 _ _ _
set_option maxRecDepth 20000 in
set_option maxHeartbeats 1000000 in
theorem progOf_3 (w : World) : Calls Tryz.prog 90 #[.int .i64 3] w (GivesP w prog3 true) := by
  have q0 : ∀ h : 15 < progAll.size, progAll[15]'h = .func (.func 120) #[] #[] := fun _ => rfl
  have q1 : ∀ h : 16 < progAll.size, progAll[16]'h = .func (.func 121) #[] #[] := fun _ => rfl
  have q2 : ∀ h : 17 < progAll.size, progAll[17]'h = .func (.func 117) #[] #[] := fun _ => rfl
  have q3 : ∀ h : 18 < progAll.size, progAll[18]'h = .func (.func 122) #[] #[] := fun _ => rfl
  have q4 : ∀ h : 19 < progAll.size, progAll[19]'h = .func (.func 123) #[] #[] := fun _ => rfl
  have hsz : progAll.size = 25 := rfl
  have hsc := progAll_store (w.alloc (.cells #[.nilFunc, .nilFunc, .nilFunc, .nilFunc, .nilFunc] 121))
  rw [World.size_alloc] at hsc
  go_enter Tryz.func90, Tryz.ntmps90
  go_upto_region 3 with fail
  refine wp_region_lit ?_
  refine wpList_build_is rfl _ _ rfl prog1 (by kernel_rfl) ?_
  refine wpList_build_is rfl _ _ rfl prog2 (by kernel_rfl) ?_
  refine wpList_build_is rfl _ _ rfl prog3 (by kernel_rfl) ?_
  refine wpList_build_is rfl _ _ rfl prog4 (by kernel_rfl) ?_
  refine wpList_build_is rfl _ _ rfl progAll (by kernel_rfl) ?_
  (try simp only [Act.put, List.setIfInBounds_toArray, List.set_cons_zero, List.set_cons_succ])
  go_wp2
  refine bodyPost_ret (v := .tuple #[.agg prog3, .bool true]) (by simp [results, Tryz.results90, go_sem, prog3]) rfl ⟨rfl, ?_⟩
  exact below_a2 _ _ _
set_option maxRecDepth 20000 in
set_option maxHeartbeats 1000000 in
theorem progOf_4 (w : World) : Calls Tryz.prog 90 #[.int .i64 4] w (GivesP w prog4 true) := by
  have q0 : ∀ h : 20 < progAll.size, progAll[20]'h = .func (.func 111) #[] #[] := fun _ => rfl
  have q1 : ∀ h : 21 < progAll.size, progAll[21]'h = .func (.func 116) #[] #[] := fun _ => rfl
  have q2 : ∀ h : 22 < progAll.size, progAll[22]'h = .func (.func 124) #[] #[] := fun _ => rfl
  have q3 : ∀ h : 23 < progAll.size, progAll[23]'h = .func (.func 125) #[] #[] := fun _ => rfl
  have q4 : ∀ h : 24 < progAll.size, progAll[24]'h = .func (.func 126) #[] #[] := fun _ => rfl
  have hsz : progAll.size = 25 := rfl
  have hsc := progAll_store (w.alloc (.cells #[.nilFunc, .nilFunc, .nilFunc, .nilFunc, .nilFunc] 121))
  rw [World.size_alloc] at hsc
  go_enter Tryz.func90, Tryz.ntmps90
  go_upto_region 3 with fail
  refine wp_region_lit ?_
  refine wpList_build_is rfl _ _ rfl prog1 (by kernel_rfl) ?_
  refine wpList_build_is rfl _ _ rfl prog2 (by kernel_rfl) ?_
  refine wpList_build_is rfl _ _ rfl prog3 (by kernel_rfl) ?_
  refine wpList_build_is rfl _ _ rfl prog4 (by kernel_rfl) ?_
  refine wpList_build_is rfl _ _ rfl progAll (by kernel_rfl) ?_
  (try simp only [Act.put, List.setIfInBounds_toArray, List.set_cons_zero, List.set_cons_succ])
  go_wp2
  refine bodyPost_ret (v := .tuple #[.agg prog4, .bool true]) (by simp [results, Tryz.results90, go_sem, prog4]) rfl ⟨rfl, ?_⟩
  exact below_a2 _ _ _
set_option maxHeartbeats 1000000 in
theorem progOf_no (p : Int) (h : p < 1 ∨ 4 < p) (w : World) : Calls Tryz.prog 90 #[.int .i64 p] w (GivesP w prog0 false) := by
  by_cases h1 : p < 1
  · clear h
    go_enter Tryz.func90, Tryz.ntmps90
    go_wp2
    refine bodyPost_ret (v := .tuple #[.agg prog0, .bool false]) (by simp [results, Tryz.results90, go_sem, prog0]) rfl ⟨rfl, ?_⟩
    exact below_a1 _ _
  · have h2 : 4 < p := by omega
    clear h
    go_enter Tryz.func90, Tryz.ntmps90
    go_wp2
    refine bodyPost_ret (v := .tuple #[.agg prog0, .bool false]) (by simp [results, Tryz.results90, go_sem, prog0]) rfl ⟨rfl, ?_⟩
    exact below_a1 _ _

theorem src_no (n s : Int) (w : World) : Calls Tryz.prog 111 #[.int .i64 n, .int .i64 s] w (fun e w' => e = .returned (.bool (decide (s = 0))) ∧ w' = w) := by
  go_enter Tryz.func111, Tryz.ntmps111
  go_wp2
  go_ret
  exact ⟨rfl, rfl⟩
theorem src_3 (n s : Int) (w : World) : Calls Tryz.prog 120 #[.int .i64 n, .int .i64 s] w (fun e w' => e = .returned (.bool (decide (0 ≤ s) && decide (s < n))) ∧ w' = w) := by
  by_cases h : 0 ≤ s
  · have e1 : (decide (0 ≤ s) && decide (s < n)) = decide (s < n) := by simp [h]
    rw [e1]
    go_enter Tryz.func120, Tryz.ntmps120
    go_wp2
    go_ret
    exact ⟨rfl, rfl⟩
  · have e1 : (decide (0 ≤ s) && decide (s < n)) = false := by simp [h]
    rw [e1]
    go_enter Tryz.func120, Tryz.ntmps120
    go_wp2
    go_ret
    exact ⟨rfl, rfl⟩
end Go.Proofs.YtlhcobkncceodaaGreatDoor
namespace Go.Proofs.YtlhcobkncceodaaGreatDoor
open Go.RowKit

theorem prog_cases (p : Int) : (p < 1 ∨ 4 < p) ∨ p = 1 ∨ p = 2 ∨ p = 3 ∨ p = 4 := by omega
theorem tt_of {b : Bool} (h : ¬ b = false) : b = true := by cases b <;> simp_all
theorem progB_no {p : Int} (h : p < 1 ∨ 4 < p) : progB p = false := by unfold progB; simp; omega

set_option maxHeartbeats 1000000 in
theorem implJobOk (n p s : Int) (w : World) :
    Calls Tryz.prog 50 #[.int .i64 n, .agg #[.int .i64 p, .int .i64 s]] w (fun e w' => e = .returned (.bool (jobB n p s)) ∧ Below w.heap.size w w') := by
  rcases prog_cases p with h | rfl | rfl | rfl | rfl
  · have hj : jobB n p s = false := by unfold jobB; rw [progB_no h]; rfl
    rw [hj]
    have C := Lib.hid (fun W => progOf_no p h W)
    clear h hj
    unfold GivesP prog0 at C
    go_enter Tryz.func50, Tryz.ntmps50
    go_wp2_with fail
    refine (C.out _).mono ?_
    rintro e w1 ⟨rfl, hb⟩
    have HB := Lib.hid (g_chain (below_a1 w _) hb)
    clear hb
    go_wp2
    go_ret
    exact ⟨rfl, g_chain HB.out (below_a1 _ _)⟩
  · have hj : jobB n 1 s = (decide (s = 0)) := by unfold jobB progB; simp
    rw [hj]
    have C := Lib.hid (fun W => progOf_1 W)
    have CS := Lib.hid (fun W => src_no n s W)
    clear hj
    unfold GivesP prog1 at C
    go_enter Tryz.func50, Tryz.ntmps50
    go_wp2_with fail
    refine (C.out _).mono ?_
    rintro e w1 ⟨rfl, hb⟩
    have HB := Lib.hid (g_chain (below_a1 w _) hb)
    obtain ⟨hc, hf⟩ := bcell hb
    have hz : w.heap.size < w1.heap.size := by have := hb.size; simp at this; omega
    clear hb
    go_wp2_with fail
    refine (CS.out _).mono ?_
    rintro e w2 ⟨rfl, rfl⟩
    go_wp2
    go_ret
    exact ⟨rfl, g_chain HB.out (below_a1 _ _)⟩
  · have hj : jobB n 2 s = (decide (s = 0)) := by unfold jobB progB; simp
    rw [hj]
    have C := Lib.hid (fun W => progOf_2 W)
    have CS := Lib.hid (fun W => src_no n s W)
    clear hj
    unfold GivesP prog2 at C
    go_enter Tryz.func50, Tryz.ntmps50
    go_wp2_with fail
    refine (C.out _).mono ?_
    rintro e w1 ⟨rfl, hb⟩
    have HB := Lib.hid (g_chain (below_a1 w _) hb)
    obtain ⟨hc, hf⟩ := bcell hb
    have hz : w.heap.size < w1.heap.size := by have := hb.size; simp at this; omega
    clear hb
    go_wp2_with fail
    refine (CS.out _).mono ?_
    rintro e w2 ⟨rfl, rfl⟩
    go_wp2
    go_ret
    exact ⟨rfl, g_chain HB.out (below_a1 _ _)⟩
  · have hj : jobB n 3 s = (decide (0 ≤ s) && decide (s < n)) := by unfold jobB progB; simp
    rw [hj]
    have C := Lib.hid (fun W => progOf_3 W)
    have CS := Lib.hid (fun W => src_3 n s W)
    clear hj
    unfold GivesP prog3 at C
    go_enter Tryz.func50, Tryz.ntmps50
    go_wp2_with fail
    refine (C.out _).mono ?_
    rintro e w1 ⟨rfl, hb⟩
    have HB := Lib.hid (g_chain (below_a1 w _) hb)
    obtain ⟨hc, hf⟩ := bcell hb
    have hz : w.heap.size < w1.heap.size := by have := hb.size; simp at this; omega
    clear hb
    go_wp2_with fail
    refine (CS.out _).mono ?_
    rintro e w2 ⟨rfl, rfl⟩
    go_wp2
    go_ret
    exact ⟨rfl, g_chain HB.out (below_a1 _ _)⟩
  · have hj : jobB n 4 s = (decide (s = 0)) := by unfold jobB progB; simp
    rw [hj]
    have C := Lib.hid (fun W => progOf_4 W)
    have CS := Lib.hid (fun W => src_no n s W)
    clear hj
    unfold GivesP prog4 at C
    go_enter Tryz.func50, Tryz.ntmps50
    go_wp2_with fail
    refine (C.out _).mono ?_
    rintro e w1 ⟨rfl, hb⟩
    have HB := Lib.hid (g_chain (below_a1 w _) hb)
    obtain ⟨hc, hf⟩ := bcell hb
    have hz : w.heap.size < w1.heap.size := by have := hb.size; simp at this; omega
    clear hb
    go_wp2_with fail
    refine (CS.out _).mono ?_
    rintro e w2 ⟨rfl, rfl⟩
    go_wp2
    go_ret
    exact ⟨rfl, g_chain HB.out (below_a1 _ _)⟩
theorem vtx_is {v : Int} (h : vtxB v = true) : 0 ≤ v ∧ v < 150 := by unfold vtxB at h; simpa using h
end Go.Proofs.YtlhcobkncceodaaGreatDoor
namespace Go.Proofs.YtlhcobkncceodaaGreatDoor
open Go.RowKit

theorem g_val {k : IntKind} {a b : Int} (h : a = b) : Value.int k a = .int k b := by rw [h]

set_option maxRecDepth 10000 in
set_option maxHeartbeats 1000000 in
theorem implNewRank (x : Int) (A : Option Addr) (n c : Nat) (es : List VE) (w : World) (hr : SlV w A n es) (hn : n ≤ 2097152) :
    Calls Tryz.prog 114 #[.int .i64 x, .slice A n c] w (fun e w' => e = .returned (.int .i64 (newRank es)) ∧ Below w.heap.size w w') := by
  have HR := Lib.hid hr
  have HL := Lib.hid hr.len
  clear hr
  have CA := Lib.hid (fun a b W => implAddCap a b W)
  go_enter Tryz.func114, Tryz.ntmps114
  go_wp2
  go_loopw [5, 10] (fun s i wr => ∃ k : Nat, k ≤ n ∧ i = .int .i64 (k : Int) ∧ s = .int .i64 (rankS (es.take k)) ∧ Hid (Below w.heap.size w wr)) (fun _ i _ => n - (intOf i).toNat)
  case atStart => exact ⟨0, Nat.zero_le _, rfl, rfl, Lib.hid (Below.refl _ _)⟩
  case round =>
    obtain ⟨k, hk, rfl, rfl, hbel⟩ := hrel
    have HLIM := Lib.hid (rankS_lim (es.take k))
    obtain ⟨s, hs⟩ : ∃ s, s = rankS (es.take k) := ⟨_, rfl⟩
    rw [← hs] at HLIM
    simp only [← hs]
    have HS := Lib.hid hs
    clear hs
    by_cases hlt : k < n
    · skip
      obtain ⟨b, off, e, rfl, hbw, he, c0, c1, c2, c3⟩ := HR.out.at_ hlt
      have c0 := (hbel.out.cell (p := ⟨b, off + k * 4, none⟩) hbw).trans c0
      have c1 := (hbel.out.cell (p := ⟨b, off + k * 4 + 1, none⟩) hbw).trans c1
      have c2 := (hbel.out.cell (p := ⟨b, off + k * 4 + 2, none⟩) hbw).trans c2
      have c3 := (hbel.out.cell (p := ⟨b, off + k * 4 + 3, none⟩) hbw).trans c3
      have HN := Lib.hid (rankS_snoc he.out)
      cases hi : e.i with
      | true =>
        rw [hi] at c0
        go_wp2_with fail
        refine (CA.out s e.v _).mono ?_
        rintro e1 w1 ⟨rfl, rfl⟩
        go_wp2
        go_roundw
        case rel => exact ⟨k + 1, by omega, by go_num, by rw [HN.out, ← HS.out]; unfold rankStep; rw [hi]; rfl, Lib.hid (g_chain hbel.out (below_a1 _ _))⟩
        case measure => simp [intOf]; omega
      | false =>
        rw [hi] at c0
        go_wp2
        go_roundw
        case rel => exact ⟨k + 1, by omega, by go_num, by rw [HN.out, ← HS.out]; unfold rankStep; rw [hi]; rfl, Lib.hid (g_chain hbel.out (below_a1 _ _))⟩
        case measure => simp [intOf]; omega
    · obtain rfl : k = n := by omega
      have hb0 : 0 ≤ 17 * s := by have := HLIM.out; omega
      have hb1 : 17 * s ≤ 17 * 1099511627776 := by have := HLIM.out; omega
      have hq1 : IntKind.i64.wrap (17 * s) = 17 * s := IntWalk.i64_in _ (by omega)
      have hq2 : IntKind.i64.wrap (Int.tdiv (17 * s) 20) = Int.tdiv (17 * s) 20 := IntWalk.i64_in _ (by rw [Int.tdiv_eq_ediv_of_nonneg hb0]; omega)
      go_wp2_with fail
      refine (CA.out 157286 (Int.tdiv (17 * s) 20) _).mono ?_
      rintro e1 w1 ⟨rfl, rfl⟩
      go_wp2
      go_ret
      exact ⟨g_int (by unfold newRank; rw [HS.out, ← HL.out, List.take_length]), hbel.out⟩
set_option maxRecDepth 10000 in
set_option maxHeartbeats 1000000 in
theorem implNewComponent (x : Int) (A : Option Addr) (n c : Nat) (es : List VE) (w : World) (hr : SlV w A n es) (hn : n ≤ 2097152) :
    Calls Tryz.prog 118 #[.int .i64 x, .slice A n c] w (fun e w' => e = .returned (.int .i64 (minAll x es)) ∧ Below w.heap.size w w') := by
  have HR := Lib.hid hr
  have HL := Lib.hid hr.len
  clear hr
  go_enter Tryz.func118, Tryz.ntmps118
  go_wp2
  go_loopw [0, 9] (fun s i wr => ∃ k : Nat, k ≤ n ∧ i = .int .i64 (k : Int) ∧ s = .int .i64 (minAll x (es.take k)) ∧ Hid (Below w.heap.size w wr)) (fun _ i _ => n - (intOf i).toNat)
  case atStart => exact ⟨0, Nat.zero_le _, rfl, rfl, Lib.hid (Below.refl _ _)⟩
  case round =>
    obtain ⟨k, hk, rfl, rfl, hbel⟩ := hrel
    obtain ⟨s, hs⟩ : ∃ s, s = minAll x (es.take k) := ⟨_, rfl⟩
    simp only [← hs]
    have HS := Lib.hid hs
    clear hs
    by_cases hlt : k < n
    · skip
      obtain ⟨b, off, e, rfl, hbw, he, c0, c1, c2, c3⟩ := HR.out.at_ hlt
      have c0 := (hbel.out.cell (p := ⟨b, off + k * 4, none⟩) hbw).trans c0
      have c1 := (hbel.out.cell (p := ⟨b, off + k * 4 + 1, none⟩) hbw).trans c1
      have c2 := (hbel.out.cell (p := ⟨b, off + k * 4 + 2, none⟩) hbw).trans c2
      have c3 := (hbel.out.cell (p := ⟨b, off + k * 4 + 3, none⟩) hbw).trans c3
      have HN := Lib.hid (minAll_snoc x he.out)
      have HZ := Lib.hid (show min s e.v = min s e.v from rfl)
      obtain ⟨z, hz⟩ : ∃ z, min s e.v = z := ⟨_, rfl⟩
      have HZ := Lib.hid hz
      go_wp2
      all_goals
        go_roundw
        case rel => exact ⟨k + 1, by omega, by go_num, g_val (by rw [HN.out, ← HS.out]; first | exact HZ.out.symm | (have := HZ.out; omega) | omega), Lib.hid (g_chain hbel.out (below_a1 _ _))⟩
        case measure => simp [intOf]; omega
    · obtain rfl : k = n := by omega
      go_wp2
      go_ret
      exact ⟨g_int (by rw [HS.out, ← HL.out, List.take_length]), hbel.out⟩
set_option maxRecDepth 10000 in
set_option maxHeartbeats 1000000 in
theorem implNewDistance (x : Int) (A : Option Addr) (n c : Nat) (es : List VE) (w : World) (hr : SlV w A n es) (hn : n ≤ 2097152) :
    Calls Tryz.prog 122 #[.int .i64 x, .slice A n c] w (fun e w' => e = .returned (.int .i64 (minPath x es)) ∧ Below w.heap.size w w') := by
  have HR := Lib.hid hr
  have HL := Lib.hid hr.len
  clear hr
  have CA := Lib.hid (fun a b W => implAddCap a b W)
  go_enter Tryz.func122, Tryz.ntmps122
  go_wp2
  go_loopw [0, 9] (fun s i wr => ∃ k : Nat, k ≤ n ∧ i = .int .i64 (k : Int) ∧ s = .int .i64 (minPath x (es.take k)) ∧ Hid (Below w.heap.size w wr)) (fun _ i _ => n - (intOf i).toNat)
  case atStart => exact ⟨0, Nat.zero_le _, rfl, rfl, Lib.hid (Below.refl _ _)⟩
  case round =>
    obtain ⟨k, hk, rfl, rfl, hbel⟩ := hrel
    obtain ⟨s, hs⟩ : ∃ s, s = minPath x (es.take k) := ⟨_, rfl⟩
    simp only [← hs]
    have HS := Lib.hid hs
    clear hs
    by_cases hlt : k < n
    · skip
      obtain ⟨b, off, e, rfl, hbw, he, c0, c1, c2, c3⟩ := HR.out.at_ hlt
      have c0 := (hbel.out.cell (p := ⟨b, off + k * 4, none⟩) hbw).trans c0
      have c1 := (hbel.out.cell (p := ⟨b, off + k * 4 + 1, none⟩) hbw).trans c1
      have c2 := (hbel.out.cell (p := ⟨b, off + k * 4 + 2, none⟩) hbw).trans c2
      have c3 := (hbel.out.cell (p := ⟨b, off + k * 4 + 3, none⟩) hbw).trans c3
      have HN := Lib.hid (minPath_snoc x he.out)
      cases hi : e.i with
      | true =>
        rw [hi] at c0
        have HP : Hid (pathStep s e = min s (addC e.v e.w)) := Lib.hid (by unfold pathStep; rw [hi]; rfl)
        go_wp2_with fail
        refine (CA.out e.v e.w _).mono ?_
        generalize addC e.v e.w = q at HP
        rintro e1 w1 ⟨rfl, rfl⟩
        obtain ⟨z, hz⟩ : ∃ z, min s q = z := ⟨_, rfl⟩
        have HZ := Lib.hid hz
        go_wp2
        all_goals
          go_roundw
          case rel => exact ⟨k + 1, by omega, by go_num, g_val (by rw [HN.out, ← HS.out, HP.out]; first | exact HZ.out.symm | (have := HZ.out; omega) | omega), Lib.hid (g_chain hbel.out (below_a1 _ _))⟩
          case measure => simp [intOf]; omega
      | false =>
        rw [hi] at c0
        go_wp2
        go_roundw
        case rel => exact ⟨k + 1, by omega, by go_num, by rw [HN.out, ← HS.out]; unfold pathStep; rw [hi]; rfl, Lib.hid (g_chain hbel.out (below_a1 _ _))⟩
        case measure => simp [intOf]; omega
    · obtain rfl : k = n := by omega
      go_wp2
      go_ret
      exact ⟨g_int (by rw [HS.out, ← HL.out, List.take_length]), hbel.out⟩
set_option maxRecDepth 10000 in
set_option maxHeartbeats 1000000 in
theorem implCountOuts (A : Option Addr) (n c : Nat) (es : List VE) (w : World) (hr : SlV w A n es) (hn : n ≤ 2097152) :
    Calls Tryz.prog 135 #[.slice A n c] w (fun e w' => e = .returned (.int .i64 (outsN es : Int)) ∧ Below w.heap.size w w') := by
  have HR := Lib.hid hr
  have HL := Lib.hid hr.len
  clear hr
  go_enter Tryz.func135, Tryz.ntmps135
  go_wp2
  go_loopw [3, 8] (fun s i wr => ∃ k : Nat, k ≤ n ∧ i = .int .i64 (k : Int) ∧ s = .int .i64 (outsN (es.take k) : Int) ∧ Hid (Below w.heap.size w wr)) (fun _ i _ => n - (intOf i).toNat)
  case atStart => exact ⟨0, Nat.zero_le _, rfl, rfl, Lib.hid (Below.refl _ _)⟩
  case round =>
    obtain ⟨k, hk, rfl, rfl, hbel⟩ := hrel
    have HO := outsN_le (es.take k)
    rw [List.length_take] at HO
    obtain ⟨s, hs⟩ : ∃ s, s = outsN (es.take k) := ⟨_, rfl⟩
    rw [← hs] at HO
    simp only [← hs]
    have HS := Lib.hid hs
    have hs2 : s ≤ 2097152 := by omega
    clear hs HO
    by_cases hlt : k < n
    · skip
      obtain ⟨b, off, e, rfl, hbw, he, c0, c1, c2, c3⟩ := HR.out.at_ hlt
      have c0 := (hbel.out.cell (p := ⟨b, off + k * 4, none⟩) hbw).trans c0
      have c1 := (hbel.out.cell (p := ⟨b, off + k * 4 + 1, none⟩) hbw).trans c1
      have c2 := (hbel.out.cell (p := ⟨b, off + k * 4 + 2, none⟩) hbw).trans c2
      have c3 := (hbel.out.cell (p := ⟨b, off + k * 4 + 3, none⟩) hbw).trans c3
      have HN := Lib.hid (outsN_snoc he.out)
      cases hi : e.o with
      | true =>
        rw [hi] at c1 HN
        go_wp2
        go_roundw
        case rel => exact ⟨k + 1, by omega, by go_num, g_val (by rw [HN.out, if_pos rfl, ← HS.out]; first | rfl | omega | (simp only [IntKind.wrap_i64]; omega)), Lib.hid (g_chain hbel.out (below_a1 _ _))⟩
        case measure => simp [intOf]; omega
      | false =>
        rw [hi] at c1 HN
        go_wp2
        go_roundw
        case rel => exact ⟨k + 1, by omega, by go_num, by rw [HN.out, if_neg (by simp), ← HS.out], Lib.hid (g_chain hbel.out (below_a1 _ _))⟩
        case measure => simp [intOf]; omega
    · obtain rfl : k = n := by omega
      go_wp2
      go_ret
      exact ⟨g_int (by rw [HS.out, ← HL.out, List.take_length]), hbel.out⟩
end Go.Proofs.YtlhcobkncceodaaGreatDoor
namespace Go.Proofs.YtlhcobkncceodaaGreatDoor
open Go.RowKit

theorem specMin (a b : Int) (w : World) : Calls Tryz.prog 141 #[.int .i64 a, .int .i64 b] w (fun e w' => e = .returned (.int .i64 (min a b)) ∧ w' = w) := by
  by_cases h : a < b
  · rw [Int.min_eq_left (by omega)]
    go_enter Tryz.func141, Tryz.ntmps141
    go_wp2
    go_ret
    exact ⟨rfl, rfl⟩
  · rw [Int.min_eq_right (by omega)]
    go_enter Tryz.func141, Tryz.ntmps141
    go_wp2
    go_ret
    exact ⟨rfl, rfl⟩

set_option maxRecDepth 10000 in
set_option maxHeartbeats 1000000 in
theorem specRank (A : Option Addr) (n c : Nat) (es : List VE) (w : World) (hr : SlV w A n es) (hn : n ≤ 2097152) :
    Calls Tryz.prog 138 #[.slice A n c] w (fun e w' => e = .returned (.int .i64 (newRank es)) ∧ Below w.heap.size w w') := by
  have HR := Lib.hid hr
  have HL := Lib.hid hr.len
  clear hr
  have CA := Lib.hid (fun a b W => specAddCap a b W)
  have CC := Lib.hid (fun v W => specCap v W)
  go_enter Tryz.func138, Tryz.ntmps138
  go_wp2
  go_loopw [3, 8] (fun s i wr => ∃ k : Nat, k ≤ n ∧ i = .int .i64 (k : Int) ∧ s = .int .i64 (rankS (es.take k)) ∧ Hid (Below w.heap.size w wr)) (fun _ i _ => n - (intOf i).toNat)
  case atStart => exact ⟨0, Nat.zero_le _, rfl, rfl, Lib.hid (Below.refl _ _)⟩
  case round =>
    obtain ⟨k, hk, rfl, rfl, hbel⟩ := hrel
    have HLIM := Lib.hid (rankS_lim (es.take k))
    obtain ⟨s, hs⟩ : ∃ s, s = rankS (es.take k) := ⟨_, rfl⟩
    rw [← hs] at HLIM
    simp only [← hs]
    have HS := Lib.hid hs
    clear hs
    by_cases hlt : k < n
    · skip
      obtain ⟨b, off, e, rfl, hbw, he, c0, c1, c2, c3⟩ := HR.out.at_ hlt
      have c0 := (hbel.out.cell (p := ⟨b, off + k * 4, none⟩) hbw).trans c0
      have c1 := (hbel.out.cell (p := ⟨b, off + k * 4 + 1, none⟩) hbw).trans c1
      have c2 := (hbel.out.cell (p := ⟨b, off + k * 4 + 2, none⟩) hbw).trans c2
      have c3 := (hbel.out.cell (p := ⟨b, off + k * 4 + 3, none⟩) hbw).trans c3
      have HN := Lib.hid (rankS_snoc he.out)
      cases hi : e.i with
      | true =>
        rw [hi] at c0
        go_wp2_with fail
        refine (CA.out s e.v _).mono ?_
        rintro e1 w1 ⟨rfl, rfl⟩
        go_wp2
        go_roundw
        case rel => exact ⟨k + 1, by omega, by go_num, by rw [HN.out, ← HS.out]; unfold rankStep; rw [hi]; rfl, Lib.hid (g_chain hbel.out (below_a1 _ _))⟩
        case measure => simp [intOf]; omega
      | false =>
        rw [hi] at c0
        go_wp2
        go_roundw
        case rel => exact ⟨k + 1, by omega, by go_num, by rw [HN.out, ← HS.out]; unfold rankStep; rw [hi]; rfl, Lib.hid (g_chain hbel.out (below_a1 _ _))⟩
        case measure => simp [intOf]; omega
    · obtain rfl : k = n := by omega
      have hb0 : 0 ≤ 17 * s := by have := HLIM.out; omega
      have hb1 : 17 * s ≤ 17 * 1099511627776 := by have := HLIM.out; omega
      have hq1 : IntKind.i64.wrap (17 * s) = 17 * s := IntWalk.i64_in _ (by omega)
      have hq2 : IntKind.i64.wrap (Int.tdiv (17 * s) 20) = Int.tdiv (17 * s) 20 := IntWalk.i64_in _ (by rw [Int.tdiv_eq_ediv_of_nonneg hb0]; omega)
      have hq3 : IntKind.i64.wrap (157286 + Int.tdiv (17 * s) 20) = 157286 + Int.tdiv (17 * s) 20 := IntWalk.i64_in _ (by rw [Int.tdiv_eq_ediv_of_nonneg hb0]; omega)
      have hq4 : 0 ≤ Int.tdiv (17 * s) 20 := by rw [Int.tdiv_eq_ediv_of_nonneg hb0]; omega
      have HQ := Lib.hid (addC_in (a := 157286) (by omega) hq4)
      go_wp2_with fail
      refine (CC.out (157286 + Int.tdiv (17 * s) 20) _).mono ?_
      rintro e1 w1 ⟨rfl, rfl⟩
      go_wp2
      go_ret
      exact ⟨g_int (by rw [← HQ.out]; unfold newRank; rw [HS.out, ← HL.out, List.take_length]), hbel.out⟩
end Go.Proofs.YtlhcobkncceodaaGreatDoor
