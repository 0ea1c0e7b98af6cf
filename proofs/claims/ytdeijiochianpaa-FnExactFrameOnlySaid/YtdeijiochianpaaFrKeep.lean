/- Words for the laws' walks on frames: what survives a call that leaves marks in one block. -/
import Derived.Test.YtdeijiochianpaaFrBox
import Derived.Test.YtdeijiochianpaaMarkAll
namespace Go.Proofs.Ytdeijiochianpaa
open Go.RowKit

theorem kept_grown {anc W W' : World} {row : Option Nat} {lo : Nat} (h : Below anc.heap.size anc W) (hg : W.grownBy W' row) (hr : ∀ k, row = some k → lo ≤ k) (hl : anc.heap.size ≤ lo) : Below anc.heap.size anc W' :=
  h.grown hg h.size (fun k hk => Nat.le_trans hl (hr k hk))
theorem box2_grown {W W' : World} {b lo : Nat} {v0 v1 : Value} {row : Option Nat} (h : Box2 W b v0 v1) (hg : W.grownBy W' row) (hr : ∀ k, row = some k → lo ≤ k) (hl : b < lo) : Box2 W' b v0 v1 :=
  h.keep hg.size (hg.block b h.lt (fun e => by have := hr b e.symm; omega))
theorem row_grown {W W' : World} {lo e n c : Nat} {A : Option Addr} {xs : List Value} {row : Option Nat} {hi : Nat} (h : W.ownsRow lo e 1 (.slice A n c) n xs) (hg : W.grownBy W' row) (hr : ∀ k, row = some k → k < hi) (hl : hi ≤ lo) : W'.ownsRow lo e 1 (.slice A n c) n xs := by
  refine h.kept hg ?_
  cases hb : (Value.slice A n c).ownBlock with
  | none => exact .inl rfl
  | some k => exact .inr (fun e => by have := hr k e.symm; have := (h.lt k hb).1; omega)
theorem tells_same {A B : Option Addr} {n c d : Nat} {xs : List Nat} {w : World} (ha : Rd w A n xs) (hb : Rd w B n xs) (hn : n ≤ 2097152) :
    Calls Try.prog 37 #[.slice A n c, .slice B n d] w (FTell w true) :=
  (same_any A B n c d xs w ha hb hn).mono fun _ _ ⟨he, m, hw⟩ => ⟨he, by rw [hw]; exact below_drewN (Below.refl _ _) m⟩

theorem markFrK (kind : Int) (A : Option Addr) (n c lo k : Nat) (xs : List Nat) (w : World) (ho : w.ownsRow lo 5 1 (.slice A n c) n (vb xs)) (hn : n ≤ 2097152) (hk : k ≤ 8388608) :
    Calls Try.prog 39 #[.agg #[.int .i64 kind, .slice A n c], .int .i64 (k : Int)] w (MarkedK w lo k A n c) := by
  have C := Lib.hid (markB_any A n c lo k xs (w.alloc (.cells #[.int .i64 kind, .slice A n c] 59)) (ho.alloc _) hn hk)
  clear ho
  go_enter Try.func39, Try.ntmps39
  go_wp2_with fail
  refine C.out.mono ?_
  rintro e w1 ⟨rfl, ho1, hg⟩
  have HO := Lib.hid ho1
  have HG := Lib.hid hg
  clear ho1 hg
  go_wp2
  go_ret
  exact ⟨rfl, HO.out, grownBy_trans (grownBy_of_below (below_a1 w _) _) HG.out⟩
theorem heldFrK (kind : Int) (A : Option Addr) (n c k : Nat) (w : World) (hr : Rd w A n (marksK k n)) (hn : n ≤ 2097152) (hk : k ≤ 8388608) :
    Calls Try.prog 40 #[.agg #[.int .i64 kind, .slice A n c], .int .i64 (k : Int)] w (FNum w ((k + n : Nat) : Int)) := by
  have C := Lib.hid (fun W (h : Below w.heap.size w W) => heldB_any A n c k W (hr.below h) hn hk)
  have hp : (0 : Int) ≤ ((k + n : Nat) : Int) := by omega
  generalize k + n = q at C hp ⊢
  clear hr
  go_enter Try.func40, Try.ntmps40
  go_wp2_with fail
  refine (C.out _ (below_a1 _ _)).mono ?_
  rintro e w1 ⟨rfl, rfl⟩
  go_wp2
  go_ret
  exact ⟨rfl, below_a1 _ _⟩
end Go.Proofs.Ytdeijiochianpaa
