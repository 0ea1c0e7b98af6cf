/- The contracts of the laws' helpers that leave marks in one shard and find them; those on bytes and numbers, said of memory alone. Condition: at most 2^21 edges, bytes or numbers. -/
import Derived.Test.YtmbabbapcjphgaaKMark
import Derived.Test.YtmbabbapcjphgaaCopy
import Derived.Test.YtmbabbapcjphgaaMark
import Derived.Test.YtmbabbapcjphgaaIntEq
namespace Go.Proofs.Ytmbabbapcjphgaa
open Go.RowKit

theorem markShard_any (lo hi : Int) (A : Option Addr) (n c l k : Nat) (es : List KE) (w : World) (ho : w.ownsRow l 77 5 (.slice A n c) n (es.flatMap KE.cells)) (hl : es.length = n) (hn : n ≤ 2097152) (hk : k ≤ 16777216) :
    Calls Try.prog 33 #[.agg #[.int .i64 lo, .int .i64 hi, .slice A n c], .int .i64 (k : Int)] w (Marked5 w l (k + 5 * n) A n c k es) := by
  have C := Lib.hid (fun W (h : Below w.heap.size w W) => markKs_any A n c l k es W (own_below ho h) hl hn hk)
  clear ho
  go_enter Try.func33, Try.ntmps33
  go_wp2_with fail
  refine (C.out _ (below_a1 _ _)).mono ?_
  rintro e w1 ⟨rfl, ho1, hg1⟩
  have HG := Lib.hid (grownBy_trans (grownBy_of_below (below_a1 w (.cells #[.int .i64 lo, .int .i64 hi, .slice A n c] 35)) _) hg1)
  have HO := Lib.hid ho1
  clear ho1 hg1
  go_wp2
  go_ret
  exact ⟨rfl, HO.out, HG.out⟩
theorem heldShard_any (lo hi : Int) (A : Option Addr) (n c k : Nat) (es : List KE) (w : World) (hr : SlK w A n (mark5 k es)) (hn : n ≤ 2097152) (hk : k ≤ 16777216) :
    Calls Try.prog 39 #[.agg #[.int .i64 lo, .int .i64 hi, .slice A n c], .int .i64 (k : Int)] w (GNum w ((k + 5 * n : Nat) : Int)) := by
  have CE := Lib.hid (fun W (h : Below w.heap.size w W) => heldKs_any A n c k es W (hr.below h) hn hk)
  clear hr
  go_enter Try.func39, Try.ntmps39
  go_wp2_with fail
  refine (CE.out _ (below_a1 _ _)).mono ?_
  rintro e w1 ⟨rfl, hb1⟩
  go_wp2
  go_ret
  exact ⟨rfl, g_chain (below_a1 _ _) hb1⟩
theorem eqY_any (A B : Option Addr) (n c d : Nat) (xs : List Nat) (w : World) (ha : Rd w A n xs) (hb : Rd w B n xs) (hn : n ≤ 2097152) :
    Calls Try.prog 32 #[.slice A n c, .slice B n d] w (GTell w true) := by
  refine (same_any A B n c d xs w ha hb hn).mono ?_
  rintro e w' ⟨rfl, m, rfl⟩
  exact ⟨rfl, below_drewN (Below.refl _ _) m⟩
theorem heldY_any (A : Option Addr) (n c : Nat) (w : World) (hr : Rd w A n (marks n)) (hn : n ≤ 2097152) :
    Calls Try.prog 35 #[.slice A n c, .int .i64 1] w (GNum w (n + 1 : Int)) := by
  refine (held_any A n c w hr hn).mono ?_
  rintro e w' ⟨rfl, rfl⟩
  exact ⟨rfl, Below.refl _ _⟩
theorem heldN_any (A : Option Addr) (n c k : Nat) (w : World) (hr : SlI w A n (ints k n)) (hn : n ≤ 2097152) (hk : k ≤ 8388608) :
    Calls Try.prog 44 #[.slice A n c, .int .i64 (k : Int)] w (GNum w ((k + n : Nat) : Int)) := by
  refine (heldInts_any A n c k w hr hn hk).mono ?_
  rintro e w' ⟨rfl, rfl⟩
  exact ⟨rfl, Below.refl _ _⟩
/-- A row of the call's own stays where another is written. -/
theorem own_far {w w' : World} {base e size n c : Nat} {A : Option Addr} {xs : List Value} {row : Option Nat} (h : w.ownsRow base e size (.slice A n c) n xs) (hg : w.grownBy w' row) {l1 h1 l2 h2 : Nat} (ha : ∀ k, (Value.slice A n c).ownBlock = some k → l1 ≤ k ∧ k < h1) (hb : ∀ k, row = some k → l2 ≤ k ∧ k < h2) (hd : h1 ≤ l2 ∨ h2 ≤ l1) : w'.ownsRow base e size (.slice A n c) n xs :=
  h.kept hg (by
    cases hv : (Value.slice A n c).ownBlock with
    | none => exact .inl rfl
    | some k => exact .inr (fun e => by have := ha k hv; have := hb k e.symm; omega))
theorem HBox.far {w w' : World} {b n c : Nat} {lo hi : Int} {A : Option Addr} (h : HBox w b lo hi A n c) {row : Option Nat} (hg : w.grownBy w' row) {l2 h2 : Nat} (hb : ∀ k, row = some k → l2 ≤ k ∧ k < h2) (hd : b < l2 ∨ h2 ≤ b) : HBox w' b lo hi A n c :=
  h.keep hg.size (hg.block _ h.lt (fun e => by have := hb b e.symm; omega))
end Go.Proofs.Ytmbabbapcjphgaa
