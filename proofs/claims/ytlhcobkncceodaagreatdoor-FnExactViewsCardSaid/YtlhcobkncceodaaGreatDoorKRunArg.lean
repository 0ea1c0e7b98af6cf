/- Runs as the laws' walks take them: the laws' helpers in plain words of rows and lengths; what stays where marks are left (conditions: at most 2^20 numbers and bytes). -/
import Derived.Test.YtlhcobkncceodaaGreatDoorKRunMark
import Derived.Test.YtlhcobkncceodaaGreatDoorKGrLaw
import Derived.Test.YtlhcobkncceodaaGreatDoorKGrEq
namespace Go.Proofs.YtlhcobkncceodaaGreatDoor
open Go.RowKit
set_option linter.unusedVariables false

section
variable (p s it : Int) (dn : Bool) (A : Option Addr) (n c : Nat) (B : Option Addr) (m d : Nat) (nn : Int) (C : Option Addr) (j k : Nat) (vs ev : List Int) (nx : List Nat) (w : World)
theorem szRun_is (hv : vs.length = n) (he : ev.length = m) (hx : nx.length = j) (left : Int) (h1 : n ≤ maxLen) (h2 : m ≤ maxLen) (h3 : j ≤ maxLen) (h0 : 0 ≤ left) (hl : left ≤ 1048576) :
    Calls Tryz.prog 18 #[.agg #[.int .i64 p, .int .i64 s, .int .i64 it, .bool dn, .slice A n c, .slice B m d, .int .i64 nn, .slice C j k], .int .i64 left] w (GNum w (leftG left (n + m + j))) := by
  subst hv he hx
  exact szRun_any ⟨p, s, it, dn, vs, ev, nn, nx⟩ A c B d C k left w h1 h2 h3 h0 hl
theorem toRun_is (hv : SlI w A n vs) (he : SlI w B m ev) (hx : Rd w C j nx) (hk : j ≤ k) (h1 : n ≤ 2097152) (h2 : m ≤ 2097152) (h3 : j ≤ 2097152) :
    Calls Tryz.prog 21 #[.agg #[.int .i64 p, .int .i64 s, .int .i64 it, .bool dn, .slice A n c, .slice B m d, .int .i64 nn, .slice C j k]] w (MadeR w p s it dn n m nn j vs ev nx) := by
  obtain rfl := hv.len
  obtain rfl := he.len
  obtain rfl := hx.len
  refine (toRun_any ⟨p, s, it, dn, vs, ev, nn, nx⟩ A c B d C k w ⟨hv, he, hx⟩ hk h1 h2 h3).mono ?_
  rintro e w' ⟨A1, c1, B1, d1, C1, k1, rfl, ho, hb⟩
  exact ⟨A1, c1, B1, d1, C1, k1, rfl, ⟨ho.v, ho.e, ho.x, ho.ap⟩, hb⟩
theorem eqRun_is (A' : Option Addr) (c' : Nat) (B' : Option Addr) (d' : Nat) (C' : Option Addr) (k' : Nat) (hv : SlI w A n vs) (he : SlI w B m ev) (hx : Rd w C j nx) (hv' : SlI w A' n vs) (he' : SlI w B' m ev) (hx' : Rd w C' j nx) (hk : j ≤ k) (hk' : j ≤ k') (h1 : n ≤ 2097152) (h2 : m ≤ 2097152) (h3 : j ≤ 2097152) :
    Calls Tryz.prog 26 #[.agg #[.int .i64 p, .int .i64 s, .int .i64 it, .bool dn, .slice A n c, .slice B m d, .int .i64 nn, .slice C j k], .agg #[.int .i64 p, .int .i64 s, .int .i64 it, .bool dn, .slice A' n c', .slice B' m d', .int .i64 nn, .slice C' j k']] w (GTell w true) := by
  obtain rfl := hv.len
  obtain rfl := he.len
  obtain rfl := hx.len
  exact eqRun_any ⟨p, s, it, dn, vs, ev, nn, nx⟩ A c B d C k A' c' B' d' C' k' w ⟨hv, he, hx⟩ ⟨hv', he', hx'⟩ hk hk' h1 h2 h3
end
/-- Nothing is written but in blocks from l to h, and new ones. -/
def Wr (l h : Nat) (w w' : World) : Prop := OnlyB (fun g => l ≤ g ∧ g < h) w w'
section
variable {w w' w0 : World} {l h l1 h1 lo e sz n c b : Nat} {A : Option Addr} {xs : List Value} {v : Value}
theorem Wr.of_grown {row : Option Nat} (hg : w.grownBy w' row) (hr : ∀ g, row = some g → l ≤ g ∧ g < h) : Wr l h w w' := (OnlyB.refl _ w).grown hg hr
theorem Wr.of_only {S : Nat → Prop} (ho : OnlyB S w w') (hr : ∀ g, S g → l ≤ g ∧ g < h) : Wr l h w w' := ho.mono hr
theorem Wr.size (hw : Wr l h w w') : w.heap.size ≤ w'.heap.size := OnlyB.size hw
theorem Wr.blk {cs : Array Value} {t : TypeId} (hw : Wr l h w w') (hb : Blk w b cs t) (hd : b < l ∨ h ≤ b) : Blk w' b cs t := hb.keep (OnlyB.block hw b hb.lt (fun hh => by have h1 := hh.1; have h2 := hh.2; omega))
theorem Wr.own (hw : Wr l h w w') (ho : w.ownsRow lo e sz v n xs) (ha : ∀ g, v.ownBlock = some g → l1 ≤ g ∧ g < h1) (hd : h1 ≤ l ∨ h ≤ l1) : w'.ownsRow lo e sz v n xs :=
  OnlyB.own ho hw (fun g hg hh => by have h2 := ha g hg; have h3 := hh.1; have h4 := hh.2; omega)
theorem Wr.orig {base : Nat} (hw : Wr l h w w') (hb : Below base w0 w) (hs : base ≤ w.heap.size) (hl : base ≤ l) : Below base w0 w' := hb.trans (OnlyB.toBelow hw hs (fun k hk => by have h1 := hk.1; omega))
end
/-- Where the rows of a run lie. -/
def RunAt (A : Option Addr) (n c : Nat) (B : Option Addr) (m d : Nat) (C : Option Addr) (j k l h : Nat) : Prop := ∀ g, runBlk A n c B m d C j k g → l ≤ g ∧ g < h
theorem Rows3.at_ {w : World} {lo n c m d j k : Nat} {A B C : Option Addr} {vs ev : List Int} {nx : List Nat} (h : Rows3 w lo A n c B m d C j k vs ev nx) : RunAt A n c B m d C j k lo w.heap.size := by
  rintro g (hg | hg | hg)
  · exact h.v.lt g hg
  · exact h.e.lt g hg
  · exact h.x.lt g hg
theorem Wr.rows {w w' : World} {l h l1 h1 lo n c m d j k : Nat} {A B C : Option Addr} {vs ev : List Int} {nx : List Nat} (hw : Wr l h w w') (hr : Rows3 w lo A n c B m d C j k vs ev nx) (ha : RunAt A n c B m d C j k l1 h1) (hd : h1 ≤ l ∨ h ≤ l1) : Rows3 w' lo A n c B m d C j k vs ev nx :=
  ⟨hw.own hr.v (fun g hg => ha g (.inl hg)) hd, hw.own hr.e (fun g hg => ha g (.inr (.inl hg))) hd, hw.own hr.x (fun g hg => ha g (.inr (.inr hg))) hd, hr.ap⟩
theorem Rows3.cap {w : World} {lo n c m d j k : Nat} {A B C : Option Addr} {vs ev : List Int} {nx : List Nat} (h : Rows3 w lo A n c B m d C j k vs ev nx) : j ≤ k := by
  rcases h.x.2 with ⟨h, h0⟩ | ⟨g, cap, cur, h, _, _, h1, _⟩
  · injection h with _ e1 _
    omega
  · injection h with _ _ e3
    omega
end Go.Proofs.YtlhcobkncceodaaGreatDoor
