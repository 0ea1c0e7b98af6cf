/- The program's function that reads a frame: its deferred closure, which takes the code out of the panic. -/
import Derived.Test.YtmlfhjkogcabiaaFrMust
namespace Go.Proofs.Ytmlfhjkogcabiaa
open Go.RowKit

theorem as_gave (v : Value) (xT : TypeId) (w : World) : (Instr.typeAssert (.iface 105 v) xT 105 true).run Try.prog w = .ok (.tuple #[v, .bool true]) w := by
  simp [Instr.typeAssert, run_underlying Try.underlying105, Result.andThen]
theorem as_nil (xT : TypeId) (w : World) : (Instr.typeAssert .nilIface xT 105 true).run Try.prog w = .ok (.tuple #[.int .i64 0, .bool false]) w := by
  simp [Instr.typeAssert, run_underlying Try.underlying105, Result.andThen]

set_option maxRecDepth 10000 in
theorem catch_gave (p : Addr) (x c : Int) (w : World) (hc : w.cell? p = some (.int .i64 x)) (hz : w.frozen? p = false) :
    CallsD Try.prog 76 #[.pointer (some p)] (.panicking [gaveE c]) w fun e u' w' =>
      e = .returned (.tuple #[]) ∧ u' = .panicking [{ v := .iface 105 (.int .i64 c), recovered := true }] ∧ w' = w.setCell p (.int .i64 c) := by
  have ha := fun xT => as_gave (.int .i64 c) xT
  refine callsD_of_wpS Try.func76 rfl fun c₀ cs hu => ?_
  unfold gaveE at hu
  apply wpS_seq
  apply wpS_region
  simp [wpOpsS, go_sem, recoverD, hu, Try.ntmps76, Exit.thenS, ha]
  apply wpS_seq
  apply wpS_region
  simp [wpOpsS, go_sem, Exit.thenS]
  refine wpS_cond (t := true) (by simp [Act.eval, Array.replicate]) ?_
  simp only [if_true]
  apply wpS_region
  simp [wpOpsS, go_sem, hc, hz, bodyPostS, results, Try.results76]
set_option maxRecDepth 10000 in
theorem catch_idle (p : Addr) (w : World) :
    CallsD Try.prog 76 #[.pointer (some p)] .returning w fun e u' w' => e = .returned (.tuple #[]) ∧ u' = .returning ∧ w' = w := by
  have ha := as_nil
  refine callsD_of_wpS Try.func76 rfl fun c₀ cs hu => ?_
  apply wpS_seq
  apply wpS_region
  simp [wpOpsS, go_sem, recoverD, hu, Try.ntmps76, Exit.thenS, ha]
  apply wpS_seq
  apply wpS_region
  simp [wpOpsS, go_sem, Exit.thenS]
  refine wpS_cond (t := false) (by simp [Act.eval, Array.replicate]) ?_
  simp only [Bool.false_eq_true, if_false]
  refine wpS_of_wp (wp_skip ?_)
  cases c₀
  simp_all [bodyPostS, results, Try.results76]

theorem Box2.set0 {w : World} {b : Nat} {v0 v1 : Value} (h : Box2 w b v0 v1) (u : Value) : Box2 (w.setCell ⟨b, 0, none⟩ u) b u v1 :=
  ⟨by simpa using h.lt, World.cell?_setCell_same' _ _ _ (by rw [h.c0]; rfl), by rw [World.cell?_setCell_other _ _ _ _ (by simp)]; exact h.c1⟩
theorem Box2.set1 {w : World} {b : Nat} {v0 v1 : Value} (h : Box2 w b v0 v1) (u : Value) : Box2 (w.setCell ⟨b, 1, none⟩ u) b v0 u :=
  ⟨by simpa using h.lt, by rw [World.cell?_setCell_other _ _ _ _ (by simp)]; exact h.c0, World.cell?_setCell_same' _ _ _ (by rw [h.c1]; rfl)⟩
theorem Box2.far {w : World} {b : Nat} {v0 v1 : Value} (h : Box2 w b v0 v1) {p : Addr} (hp : b ≠ p.block) (u : Value) : Box2 (w.setCell p u) b v0 v1 := h.keep (by simp) (Below.heap_setCell w p u b hp)
def FrP (w : World) (r : (Int × List Nat) × Int × Int) (e : Ending) (w' : World) : Prop :=
  ∃ A c, e = .returned (.tuple #[.agg #[.int .i64 r.1.1, .slice A r.1.2.length c], .int .i64 r.2.1, .int .i64 r.2.2]) ∧ w'.ownsRow w.heap.size 5 1 (.slice A r.1.2.length c) r.1.2.length (vb r.1.2) ∧ Below w.heap.size w w'
theorem frR_code {xs : List Nat} {a : Int} (h : (frR xs a).2.2 ≠ 0) : frR xs a = ((0, []), 0, (frR xs a).2.2) := by
  unfold frR at h ⊢
  split
  · rfl
  · split
    · rfl
    · split
      · rfl
      · split
        · rfl
        · split
          · rfl
          · rename_i h1 h2 h3 h4 h5
            rw [if_neg h1, if_neg h2, if_neg h3, if_neg h4, if_neg h5] at h
            exact absurd rfl h

set_option maxRecDepth 10000 in
set_option maxHeartbeats 2000000 in
theorem implFrameRead (A : Option Addr) (n c : Nat) (xs : List Nat) (a : Int) (w : World) (hr : Rd w A n xs) (hn : n ≤ 1048576) (hc : n ≤ c) :
    Calls Try.prog 52 #[.slice A n c, .int .i64 a] w (FrP w (frR xs a)) := by
  have hmf : ∀ (fn : Fn) (first cap : Array Value) (w : World), (Instr.makeFunc fn first cap).run Try.prog w = .ok (.func fn first cap) w := fun _ _ _ _ => rfl
  have CM := Lib.hid (fun W (h : Below w.heap.size w W) => implMust A n c xs a W (hr.below h) hn hc)
  have HZ := Lib.hid (frR_code (xs := xs) (a := a))
  generalize frR xs a = R at CM HZ ⊢
  have X0 := Lib.hid (below_a2 w (.cells #[.int .i64 0, .slice none 0 0] 45) (.cells #[.int .i64 0] 3))
  clear hr
  go_enter_defers Try.func52, Try.ntmps52
  go_wp2_with fail
  refine (CM.out _ (below_a2 _ _ _)).mono ?_
  rintro e w1 (⟨h0, A2, c2, rfl, hown, hb⟩ | ⟨h0, rfl, hb⟩)
  · have f0 : w1.frozen? ⟨w.heap.size, 0, none⟩ = false := ((hb.frozen (p := ⟨w.heap.size, 0, none⟩) (by simp; omega)).trans (by simp))
    have f1 : w1.frozen? ⟨w.heap.size, 1, none⟩ = false := ((hb.frozen (p := ⟨w.heap.size, 1, none⟩) (by simp; omega)).trans (by simp))
    have f2 : w1.frozen? ⟨w.heap.size + 1, 0, none⟩ = false := ((hb.frozen (p := ⟨w.heap.size + 1, 0, none⟩) (by simp)).trans (by simp))
    have k0 : w1.cell? ⟨w.heap.size, 0, none⟩ = some (.int .i64 0) := ((hb.cell (p := ⟨w.heap.size, 0, none⟩) (by simp; omega)).trans (by simp))
    have k1 : w1.cell? ⟨w.heap.size, 1, none⟩ = some (.slice none 0 0) := ((hb.cell (p := ⟨w.heap.size, 1, none⟩) (by simp; omega)).trans (by simp))
    have k2 : w1.cell? ⟨w.heap.size + 1, 0, none⟩ = some (.int .i64 0) := ((hb.cell (p := ⟨w.heap.size + 1, 0, none⟩) (by simp)).trans (by simp))
    have HB := Lib.hid hb
    have HO := Lib.hid hown
    clear hb hown
    go_wp2
    refine leaves_cons (f := 76) (args := #[.pointer (some ⟨w.heap.size + 1, 0, none⟩)]) (by simp) (by simp [go_sem]) ?_
    refine (catch_idle ⟨w.heap.size + 1, 0, none⟩ _).mono ?_
    rintro e u' w'' ⟨rfl, rfl, rfl⟩
    have hlt : w.heap.size + 1 < w1.heap.size := by have := HB.out.size; simp at this; omega
    have BX := ((((((⟨by omega, k0, k1⟩ : Box2 w1 w.heap.size (.int .i64 0) (.slice none 0 0)).set0 (.int .i64 R.1.1)).set1 (.slice A2 R.1.2.length c2)).set0 (.int .i64 R.1.1)).set1 (.slice A2 R.1.2.length c2)).far (p := ⟨w.heap.size + 1, 0, none⟩) (by show w.heap.size ≠ w.heap.size + 1; omega) (.int .i64 0))
    have k3 : ((((((w1.setCell ⟨w.heap.size, 0, none⟩ (.int .i64 R.1.1)).setCell ⟨w.heap.size, 1, none⟩ (.slice A2 R.1.2.length c2)).setCell ⟨w.heap.size, 0, none⟩ (.int .i64 R.1.1)).setCell ⟨w.heap.size, 1, none⟩ (.slice A2 R.1.2.length c2)).setCell ⟨w.heap.size + 1, 0, none⟩ (.int .i64 0))).cell? ⟨w.heap.size + 1, 0, none⟩ = some (.int .i64 0) := World.cell?_setCell_same' _ _ _ (by rw [World.cell?_setCell_other _ _ _ _ (by simp), World.cell?_setCell_other _ _ _ _ (by simp), World.cell?_setCell_other _ _ _ _ (by simp), World.cell?_setCell_other _ _ _ _ (by simp), k2]; rfl)
    have j0 := BX.c0
    have j1 := BX.c1
    refine ⟨.tuple #[.agg #[.int .i64 R.1.1, .slice A2 R.1.2.length c2], .int .i64 R.2.1, .int .i64 0], by simp [results, Try.results52, go_sem, j0, j1, k3], A2, c2, by rw [h0], ?_, ?_⟩
    · have h9 := HO.out
      rw [World.size_alloc, World.size_alloc] at h9
      exact base_row (low_row (low_row (low_row (low_row (low_row h9 (by simp <;> omega) _) (by simp <;> omega) _) (by simp <;> omega) _) (by simp <;> omega) _) (by simp <;> omega) _) (by omega)
    · exact (((((fr_chain X0.out HB.out).setCell (by simp) _).setCell (by simp) _).setCell (by simp) _).setCell (by simp) _).setCell (by simp) _
  · have f2 : w1.frozen? ⟨w.heap.size + 1, 0, none⟩ = false := ((hb.frozen (p := ⟨w.heap.size + 1, 0, none⟩) (by simp)).trans (by simp))
    have k0 : w1.cell? ⟨w.heap.size, 0, none⟩ = some (.int .i64 0) := ((hb.cell (p := ⟨w.heap.size, 0, none⟩) (by simp; omega)).trans (by simp))
    have k1 : w1.cell? ⟨w.heap.size, 1, none⟩ = some (.slice none 0 0) := ((hb.cell (p := ⟨w.heap.size, 1, none⟩) (by simp; omega)).trans (by simp))
    have k2 : w1.cell? ⟨w.heap.size + 1, 0, none⟩ = some (.int .i64 0) := ((hb.cell (p := ⟨w.heap.size + 1, 0, none⟩) (by simp)).trans (by simp))
    have HB := Lib.hid hb
    clear hb
    go_wp2
    refine leaves_cons (f := 76) (args := #[.pointer (some ⟨w.heap.size + 1, 0, none⟩)]) (by simp) (by simp [go_sem]) ?_
    refine (catch_gave ⟨w.heap.size + 1, 0, none⟩ 0 R.2.2 _ k2 f2).mono ?_
    rintro e u' w'' ⟨rfl, rfl, rfl⟩
    refine ⟨.tuple #[.agg #[.int .i64 0, .slice none 0 0], .int .i64 0, .int .i64 R.2.2], by simp [results, Try.results52, go_sem, k0, k1, k2], ?_⟩
    have hz := HZ.out h0
    generalize R.2.2 = code at hz ⊢
    subst hz
    exact ⟨none, 0, rfl, World.ownsRow_nil _ _ _ _, (fr_chain X0.out HB.out).setCell (by simp) _⟩
end Go.Proofs.Ytmlfhjkogcabiaa
