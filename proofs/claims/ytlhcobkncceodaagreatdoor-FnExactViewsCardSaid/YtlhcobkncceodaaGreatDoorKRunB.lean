/- A run in memory: eight cells, two lists of numbers and a list of bytes, read or owned (plain lemmas over the model; no condition). -/
import Derived.Test.YtlhcobkncceodaaGreatDoorKRunMath
import Derived.Test.YtlhcobkncceodaaGreatDoorCK
import Derived.Test.YtlhcobkncceodaaGreatDoorKBlkB
namespace Go.Proofs.YtlhcobkncceodaaGreatDoor
open Go.RowKit

/-- Rows of two kinds of element lie in two blocks. -/
theorem own_types {w : World} {lo1 lo2 e1 e2 s1 s2 n1 n2 : Nat} {v1 v2 : Value} {xs1 xs2 : List Value} (h1 : w.ownsRow lo1 e1 s1 v1 n1 xs1) (h2 : w.ownsRow lo2 e2 s2 v2 n2 xs2) (hne : e1 ≠ e2) : v1.ownBlock = none ∨ v2.ownBlock ≠ v1.ownBlock := by
  rcases h1.2 with ⟨rfl, _⟩ | ⟨g, cap, cur, rfl, _, hb, _⟩
  · exact .inl rfl
  · rcases h2.2 with ⟨rfl, _⟩ | ⟨g2, cap2, cur2, rfl, _, hb2, _⟩
    · exact .inr (by simp [Value.ownBlock])
    · refine .inr (fun e => ?_)
      simp [Value.ownBlock] at e
      subst e
      rw [hb] at hb2
      injection hb2 with h
      injection h with _ h _
      exact hne h
def runCells (r : RD) (A : Option Addr) (c : Nat) (B : Option Addr) (d : Nat) (C : Option Addr) (k : Nat) : Array Value :=
  #[.int .i64 r.p, .int .i64 r.s, .int .i64 r.it, .bool r.dn, .slice A r.vs.length c, .slice B r.ev.length d, .int .i64 r.nn, .slice C r.nx.length k]
/-- A run that reads. -/
structure RunR (w : World) (r : RD) (A B C : Option Addr) : Prop where
  v : SlI w A r.vs.length r.vs
  e : SlI w B r.ev.length r.ev
  x : Rd w C r.nx.length r.nx
theorem RunR.below {w w' : World} {r : RD} {A B C : Option Addr} (h : RunR w r A B C) (hb : Below w.heap.size w w') : RunR w' r A B C := ⟨h.v.below hb, h.e.below hb, h.x.below hb⟩
/-- A run of the call's own. -/
structure RunO (w : World) (lo : Nat) (r : RD) (A : Option Addr) (c : Nat) (B : Option Addr) (d : Nat) (C : Option Addr) (k : Nat) : Prop where
  v : w.ownsRow lo 3 1 (.slice A r.vs.length c) r.vs.length (vi r.vs)
  e : w.ownsRow lo 3 1 (.slice B r.ev.length d) r.ev.length (vi r.ev)
  x : w.ownsRow lo 5 1 (.slice C r.nx.length k) r.nx.length (vb r.nx)
  ap : (Value.slice A r.vs.length c).ownBlock = none ∨ (Value.slice B r.ev.length d).ownBlock ≠ (Value.slice A r.vs.length c).ownBlock
section
variable {w w' : World} {lo lo' : Nat} {r : RD} {A B C : Option Addr} {c d k : Nat}
theorem RunO.below (h : RunO w lo r A c B d C k) (hb : Below w.heap.size w w') : RunO w' lo r A c B d C k := ⟨own_below h.v hb, own_below h.e hb, own_below h.x hb, h.ap⟩
theorem RunO.mono (h : RunO w lo r A c B d C k) (hl : lo' ≤ lo) : RunO w lo' r A c B d C k := ⟨own_monoG h.v hl, own_monoG h.e hl, own_monoG h.x hl, h.ap⟩
theorem RunO.reads (h : RunO w lo r A c B d C k) (hs : ∀ x ∈ r.nx, x < 256) : RunR w r A B C := ⟨SlI.of_own h.v, SlI.of_own h.e, Rd.of_own h.x hs⟩
/-- Another block is written. -/
theorem RunO.far (h : RunO w lo r A c B d C k) {row : Option Nat} (hg : w.grownBy w' row) (hv : (Value.slice A r.vs.length c).ownBlock = none ∨ row ≠ (Value.slice A r.vs.length c).ownBlock) (he : (Value.slice B r.ev.length d).ownBlock = none ∨ row ≠ (Value.slice B r.ev.length d).ownBlock) (hx : (Value.slice C r.nx.length k).ownBlock = none ∨ row ≠ (Value.slice C r.nx.length k).ownBlock) : RunO w' lo r A c B d C k :=
  ⟨h.v.kept hg (hv.imp id fun h e => h e.symm), h.e.kept hg (he.imp id fun h e => h e.symm), h.x.kept hg (hx.imp id fun h e => h e.symm), h.ap⟩
end
/-- A new run. -/
def MadeRun (w : World) (r : RD) (e : Ending) (w' : World) : Prop :=
  ∃ A c B d C k, e = .returned (.agg (runCells r A c B d C k)) ∧ RunO w' w.heap.size r A c B d C k ∧ Below w.heap.size w w'
end Go.Proofs.YtlhcobkncceodaaGreatDoor
