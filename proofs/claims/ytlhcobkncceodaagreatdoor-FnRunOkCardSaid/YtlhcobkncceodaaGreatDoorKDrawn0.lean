/- What is drawn for the laws on runs, as data; a new run's contract over a valid graph and job (plain lemmas; no condition). -/
import Derived.Test.YtlhcobkncceodaaGreatDoorKRunNewS
import Derived.Test.YtlhcobkncceodaaGreatDoorKRunAllS
import Derived.Test.YtlhcobkncceodaaGreatDoorCGA
namespace Go.Proofs.YtlhcobkncceodaaGreatDoor
open Go.RowKit
set_option linter.unusedVariables false

def RunDrawn (w : World) (g : Nat) (A : Option Addr) (n c : Nat) (xs : List Nat) (e : Ending) (w' : World) : Prop :=
  ∃ (N : Nat) (es : List GE) (B : Option Addr) (d : Nat) (p s : Int) (k : Nat) (r : RD) (A1 : Option Addr) (c1 : Nat) (B1 : Option Addr) (d1 : Nat) (C1 : Option Addr) (k1 : Nat), (1 ≤ N ∧ k < 4 ∧ graphB (N : Int) es = true ∧ jobB (N : Int) p s = true ∧ es.length ≤ 13 ∧ r = allR (N : Int) es (newR (N : Int) es p s) k) ∧ e = .returned (.tuple #[.agg #[.int .i64 (N : Int), .slice B es.length d], .agg #[.int .i64 r.p, .int .i64 r.s, .int .i64 r.it, .bool r.dn, .slice A1 r.vs.length c1, .slice B1 r.ev.length d1, .int .i64 r.nn, .slice C1 r.nx.length k1]]) ∧ w'.ownsRow w.heap.size 113 3 (.slice B es.length d) es.length (es.flatMap GE.cells) ∧ Rows3 w' w.heap.size A1 r.vs.length c1 B1 r.ev.length d1 C1 r.nx.length k1 r.vs r.ev r.nx ∧ Cur w' g A n c xs ∧ w.grownBy w' (some g)
theorem drawn_none {es : List GE} (h : ∀ x ∈ es, edgeB ((0 : Nat) : Int) x = true) : es = [] := by
  cases es with
  | nil => rfl
  | cons e r => have := edgeB_iff (h e (by simp)); omega
theorem drawn_valid {N : Nat} {es : List GE} (hN : N ≤ 8) (h : ∀ x ∈ es, edgeB N x = true) (hl : es.length ≤ 13) : graphB N es = true := by
  unfold graphB
  rw [Bool.and_eq_true, decide_eq_true_iff, List.all_eq_true]
  exact ⟨⟨by omega, by omega, by omega⟩, h⟩
theorem specNewR (M : Nat) (B : Option Addr) (d : Nat) (es : List GE) (p s : Int) (w : World) (hG : graphB (M : Int) es = true) (hj : jobB (M : Int) p s = true) (hs : SlG w B es.length es) (hl : es.length ≤ 13) :
    Calls Tryz.prog 80 #[.agg #[.int .i64 (M : Int), .slice B es.length d], .agg #[.int .i64 p, .int .i64 s]] w (MadeRB w (newR (M : Int) es p s) true) := by
  have h := specRunNew (M : Int) B es.length d es p s w hs (by omega)
  have hb : newB' (M : Int) es p s = true := by unfold newB'; rw [hG, hj]; rfl
  unfold newO at h
  rw [hb] at h
  exact h
theorem specAllR (M : Nat) (B : Option Addr) (d : Nat) (es : List GE) (r : RD) (k : Nat) (A1 : Option Addr) (c1 : Nat) (B1 : Option Addr) (d1 : Nat) (C1 : Option Addr) (k1 lo : Nat) (w : World) (hr : RunP M es r) (hsm : SmallR r) (hs : SlG w B es.length es) (hl : es.length ≤ 13) (hst : Rows3 w lo A1 r.vs.length c1 B1 r.ev.length d1 C1 r.nx.length k1 r.vs r.ev r.nx) :
    Calls Tryz.prog 11 #[.agg #[.int .i64 (M : Int), .slice B es.length d], .agg #[.int .i64 r.p, .int .i64 r.s, .int .i64 r.it, .bool r.dn, .slice A1 r.vs.length c1, .slice B1 r.ev.length d1, .int .i64 r.nn, .slice C1 r.nx.length k1], .int .i64 (k : Int)] w (MadeRO w (allR (M : Int) es r k)) := by
  have h1 := hr.vl
  have h2 := hr.el
  have h3 := (setB_dim hr.nx).2.2
  have h4 := hr.n150
  simp only [Int.toNat_natCast] at h3
  unfold bytesN at h3
  have h := specRunAll (M : Int) B es.length d es r.p r.s r.it r.dn A1 r.vs.length c1 B1 r.ev.length d1 r.nn C1 r.nx.length k1 r.vs r.ev r.nx (k : Int) w hs (SlI.of_own hst.v) (SlI.of_own hst.e) (Rd.of_own hst.x hsm) (by omega) (by omega) (by omega) (by omega)
  unfold allO at h
  rw [runB_iff.2 (show RunP M es ⟨r.p, r.s, r.it, r.dn, r.vs, r.ev, r.nn, r.nx⟩ from hr)] at h
  simp only [if_true, Int.toNat_natCast] at h
  exact h
theorem Rows3.keep {w w' : World} {lo g n c m d j k : Nat} {A B C : Option Addr} {vs ev : List Int} {nx : List Nat} (h : Rows3 w lo A n c B m d C j k vs ev nx) (hg : w.grownBy w' (some g)) (hl : g < lo) : Rows3 w' lo A n c B m d C j k vs ev nx :=
  ⟨h.v.kept hg (.inr (fun e => by have := (h.v.lt g e).1; omega)), h.e.kept hg (.inr (fun e => by have := (h.e.lt g e).1; omega)), h.x.kept hg (.inr (fun e => by have := (h.x.lt g e).1; omega)), h.ap⟩
theorem Rows3.past {w w' : World} {lo g n c m d j k : Nat} {A B C : Option Addr} {vs ev : List Int} {nx : List Nat} {cs : Array Value} {t : TypeId} (h : Rows3 w lo A n c B m d C j k vs ev nx) (hg : w.grownBy w' (some g)) (hb : Blk w g cs t) (hi : 3 ≠ t) (hu : 5 ≠ t) : Rows3 w' lo A n c B m d C j k vs ev nx :=
  ⟨own_kept h.v hg (own_kind h.v hb hi), own_kept h.e hg (own_kind h.e hb hi), own_kept h.x hg (own_kind h.x hb hu), h.ap⟩
end Go.Proofs.YtlhcobkncceodaaGreatDoor
