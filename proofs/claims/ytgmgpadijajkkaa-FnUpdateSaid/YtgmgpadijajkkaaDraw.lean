/- The contracts of the draws behind the laws: a cursor over the bytes of a draw; the next byte, a number below a bound, some bytes. They say that what is drawn lies in its range, and that nothing but the cursor is written. -/
import Derived.Test.YtgmgpadijajkkaaPutMath
namespace Go.Proofs.Ytgmgpadijajkkaa
open Go.RowKit

/-- The low byte of an int. -/
def lowByte (z : Int) : Nat := (bits .and .i64 z 255).toNat
theorem low_eq (z : Int) : bits .and .i64 z 255 = ((lowByte z : Nat) : Int) := by
  have h : 0 ≤ bits .and .i64 z 255 := by
    show 0 ≤ IntKind.i64.wrap ((BitVec.ofInt 64 z &&& BitVec.ofInt 64 255).toNat : Int)
    have : (BitVec.ofInt 64 z &&& BitVec.ofInt 64 255).toNat < 256 := by
      rw [BitVec.toNat_and]
      exact Nat.lt_of_le_of_lt Nat.and_le_right (by decide)
    rw [IntKind.wrap_i64]
    omega
  unfold lowByte
  omega
theorem low_lt (z : Int) : lowByte z < 256 := by
  have : (BitVec.ofInt 64 z &&& BitVec.ofInt 64 255).toNat < 256 := by
    rw [BitVec.toNat_and]
    exact Nat.lt_of_le_of_lt Nat.and_le_right (by decide)
  have h : bits .and .i64 z 255 = IntKind.i64.wrap ((BitVec.ofInt 64 z &&& BitVec.ofInt 64 255).toNat : Int) := rfl
  unfold lowByte
  rw [h, IntKind.wrap_i64]
  omega

/-- A cursor lies in block g, over the bytes xs at A. -/
structure Cur (w : World) (g : Nat) (A : Option Addr) (n c : Nat) (xs : List Nat) : Prop where
  rd : Rd w A n xs
  le : n ≤ 1048576
  ne : 0 < n → ∀ b off sp, A = some ⟨b, off, sp⟩ → b ≠ g
  cells : ∃ (i : Nat) (h : Int), i ≤ n ∧ (-9223372036854775808 ≤ h ∧ h ≤ 9223372036854775807) ∧ w.heap[g]? = some (.cells #[.slice A n c, .int .i64 (i : Int), .int .i64 h] 74 (0, 0))

theorem Rd.other0 {w w' : World} {A : Option Addr} {n : Nat} {xs : List Nat} {row : Option Nat} (h : Rd w A n xs) (hg : w.grownBy w' row) (hr : 0 < n → ∀ b off sp, A = some ⟨b, off, sp⟩ → some b ≠ row) : Rd w' A n xs :=
  ⟨h.len, h.small, fun hn => by
    obtain ⟨b, off, e, hb, hc⟩ := h.lies hn
    have := hg.size
    exact ⟨b, off, e, by omega, fun j u hu => (World.cell?_of_block (hg.block b hb (hr hn _ _ _ e))).trans (hc j u hu)⟩⟩
theorem block_cell {w : World} {g : Nat} {t : TypeId} {cs : Array Value} (h : w.heap[g]? = some (.cells cs t (0, 0))) (i : Nat) : w.cell? ⟨g, i, none⟩ = cs[i]? := cell_of_row w g i cs t (0, 0) h
theorem block_free {w : World} {g : Nat} {t : TypeId} {cs : Array Value} (h : w.heap[g]? = some (.cells cs t (0, 0))) (i : Nat) : w.frozen? ⟨g, i, none⟩ = false := frozen_of_row w g i cs t h
theorem block_set {w : World} {g : Nat} {t : TypeId} {cs : Array Value} (h : w.heap[g]? = some (.cells cs t (0, 0))) (i : Nat) (u : Value) : (w.setCell ⟨g, i, none⟩ u).heap[g]? = some (.cells (cs.setIfInBounds i u) t (0, 0)) := heap_setCell_same w g i cs t u h
theorem grown_setAt {a w : World} {g : Nat} (h : a.grownBy w (some g)) (i : Nat) (u : Value) : a.grownBy (w.setCell ⟨g, i, none⟩ u) (some g) :=
  ⟨h.os, h.tape, h.output, by simpa using h.size, fun k hk hne => (Below.heap_setCell w ⟨g, i, none⟩ u k (fun e => hne (by rw [e]))).trans (h.block k hk hne)⟩

theorem wrap64_range (z : Int) : -9223372036854775808 ≤ wrap64 z ∧ wrap64 z ≤ 9223372036854775807 := by
  unfold wrap64
  omega

def ByteRes (w : World) (g : Nat) (A : Option Addr) (n c : Nat) (xs : List Nat) (e : Ending) (w' : World) : Prop :=
  ∃ x : Nat, x < 256 ∧ e = .returned (.int .i64 (x : Int)) ∧ Cur w' g A n c xs ∧ w.grownBy w' (some g)

set_option maxRecDepth 10000 in
set_option maxHeartbeats 1000000 in
theorem drawByte (g : Nat) (A : Option Addr) (n c : Nat) (xs : List Nat) (w : World) (hcur : Cur w g A n c xs) :
    Calls Try.prog 44 #[.pointer (some ⟨g, 0, none⟩)] w (ByteRes w g A n c xs) := by
  obtain ⟨hrd, hn, hne, i, h, hi, ⟨hh1, hh2⟩, hb⟩ := hcur
  have hc2 : w.cell? ⟨g, 2, none⟩ = some (.int .i64 h) := block_cell hb 2
  have hf2 := block_free hb 2
  go_enter Try.func44, Try.ntmps44
  go_wp2
  have hr1 := wrap64_range (wrap64 (h * 6364136223846793005) + 1442695040888963407)
  generalize wrap64 (wrap64 (h * 6364136223846793005) + 1442695040888963407) = h1 at hr1 ⊢
  generalize wrap64 (h * 6364136223846793005) = h2
  have hb1 : (w.setCell ⟨g, 2, none⟩ (.int .i64 h1)).heap[g]? = some (.cells #[.slice A n c, .int .i64 (i : Int), .int .i64 h1] 74 (0, 0)) := block_set hb 2 _
  have hg1 : w.grownBy (w.setCell ⟨g, 2, none⟩ (.int .i64 h1)) (some g) := grown_setAt (World.grownBy.refl _ _) 2 _
  have hrd1 : Rd (w.setCell ⟨g, 2, none⟩ (.int .i64 h1)) A n xs := hrd.other0 hg1 (fun hn0 b off sp e he => hne hn0 b off sp e (by injection he))
  generalize w.setCell ⟨g, 2, none⟩ (.int .i64 h1) = w1 at hb1 hg1 hrd1 ⊢
  have c0 : w1.cell? ⟨g, 0, none⟩ = some (.slice A n c) := block_cell hb1 0
  have c1 : w1.cell? ⟨g, 1, none⟩ = some (.int .i64 (i : Int)) := block_cell hb1 1
  have c2 : w1.cell? ⟨g, 2, none⟩ = some (.int .i64 h1) := block_cell hb1 2
  have f1 := block_free hb1 1
  have hlow := low_eq
  have HNE := Lib.hid hne
  have HB := Lib.hid hb1
  have HRD := Lib.hid hrd1
  have HG := Lib.hid hg1
  clear hc2 hf2 hb hb1 hrd hrd1 hg1 hne
  go_quiet (fail)
  rename_i nq
  go_wp2
  have hy := low_lt (bits BinOp.xor IntKind.i64 (h1 / 8589934592) (h1 / 35184372088832))
  generalize lowByte (bits BinOp.xor IntKind.i64 (h1 / 8589934592) (h1 / 35184372088832)) = y at hy ⊢
  have HB2 : Hid ((w1.drewN nq).heap[g]? = some (.cells #[.slice A n c, .int .i64 (i : Int), .int .i64 h1] 74 (0, 0))) := HB
  have HRD2 := Lib.hid (HRD.out.drewN nq)
  have HG2 := Lib.hid (grownBy_drewN HG.out nq)
  clear c0 c1 c2 f1 HB HRD HG
  generalize w1.drewN nq = w2 at HB2 HRD2 HG2 ⊢
  have c0 : w2.cell? ⟨g, 0, none⟩ = some (.slice A n c) := block_cell HB2.out 0
  have c1 : w2.cell? ⟨g, 1, none⟩ = some (.int .i64 (i : Int)) := block_cell HB2.out 1
  by_cases hin : i < n
  · have hlt : (i : Int) < (n : Int) := by omega
    go_quiet (fail)
    rename_i nq
    go_wp2
    obtain ⟨b, off, x, rfl, hbw, hx, hxs, hc⟩ := (HRD2.out.drewN nq).at_ hin
    have hbg : b ≠ g := HNE.out (by omega) b off none rfl
    have HB3 : Hid ((w2.drewN nq).heap[g]? = some (.cells #[.slice (some ⟨b, off, none⟩) n c, .int .i64 (i : Int), .int .i64 h1] 74 (0, 0))) := HB2
    have HRD3 := Lib.hid (HRD2.out.drewN nq)
    have HG3 := Lib.hid (grownBy_drewN HG2.out nq)
    clear c0 c1 HB2 HRD2 HG2
    generalize w2.drewN nq = w3 at HB3 HRD3 HG3 hc ⊢
    have c0 : w3.cell? ⟨g, 0, none⟩ = some (.slice (some ⟨b, off, none⟩) n c) := block_cell HB3.out 0
    have c1 : w3.cell? ⟨g, 1, none⟩ = some (.int .i64 (i : Int)) := block_cell HB3.out 1
    have f1 := block_free HB3.out 1
    have hw : IntKind.i64.wrap ((y : Int) + (x : Int)) = (y : Int) + x := IntWalk.i64_in _ (by omega)
    have hi0 : (0 : Int) ≤ (i : Int) := by omega
    go_quiet (fail)
    rename Nat => nr
    have HB4 : Hid ((w3.drewN nr).heap[g]? = some (.cells #[.slice (some ⟨b, off, none⟩) n c, .int .i64 (i : Int), .int .i64 h1] 74 (0, 0))) := HB3
    have HRD4 := Lib.hid (HRD3.out.drewN nr)
    have HG4 := Lib.hid (grownBy_drewN HG3.out nr)
    clear c0 c1 f1 HB3 HRD3 HG3 hc
    generalize w3.drewN nr = w4 at HB4 HRD4 HG4 ⊢
    have c1 : w4.cell? ⟨g, 1, none⟩ = some (.int .i64 (i : Int)) := block_cell HB4.out 1
    have f1 := block_free HB4.out 1
    go_wp2
    go_ret
    have hgr := grown_setAt HG4.out 1 (.int .i64 ((i : Int) + 1))
    refine ⟨lowByte ((y : Int) + x), low_lt _, rfl, ⟨?_, hn, HNE.out, i + 1, h1, by omega, hr1, ?_⟩, hgr⟩
    · exact HRD4.out.other0 (row := some g) (grown_setAt (World.grownBy.refl _ _) 1 _) (fun hn0 b' off' sp' e he => HNE.out hn0 b' off' sp' e (by injection he))
    · have := block_set HB4.out 1 (.int .i64 ((i : Int) + 1))
      rw [Int.natCast_add]
      exact this
  · have hlt : decide ((i : Int) < (n : Int)) = false := decide_eq_false (by omega)
    go_quiet (fail)
    rename_i nq
    go_wp2
    go_ret
    exact ⟨y, hy, rfl, ⟨HRD2.out.drewN nq, hn, HNE.out, i, h1, hi, hr1, HB2.out⟩, grownBy_drewN HG2.out nq⟩
def BelowRes (w : World) (g : Nat) (A : Option Addr) (n c : Nat) (xs : List Nat) (m : Nat) (e : Ending) (w' : World) : Prop :=
  ∃ x : Nat, x < m ∧ e = .returned (.int .i64 (x : Int)) ∧ Cur w' g A n c xs ∧ w.grownBy w' (some g)

set_option maxRecDepth 10000 in
theorem drawBelow (g : Nat) (A : Option Addr) (n c m : Nat) (xs : List Nat) (w : World) (hcur : Cur w g A n c xs) (h0 : 0 < m) (hm : m ≤ 256) :
    Calls Try.prog 30 #[.pointer (some ⟨g, 0, none⟩), .int .i64 (m : Int)] w (BelowRes w g A n c xs m) := by
  have C := Lib.hid (drawByte g A n c xs w hcur)
  clear hcur
  go_enter Try.func30, Try.ntmps30
  go_wp2_with (go_at_call 44; refine C.out.mono ?_; rintro e w1 ⟨x, hx, rfl, hcur, hg⟩)
  go_ret
  exact ⟨x % m, Nat.mod_lt _ h0, by rw [Int.natCast_emod]; rfl, hcur, hg⟩

theorem Rd.far {w w' : World} {A : Option Addr} {n B : Nat} {xs : List Nat} {row : Option Nat} (h : Rd w A n xs) (hg : w.grownBy w' row) (hrow : ∀ k, row = some k → B ≤ k) (hA : 0 < n → ∀ b off sp, A = some ⟨b, off, sp⟩ → b < B) : Rd w' A n xs :=
  ⟨h.len, h.small, fun hn => by
    obtain ⟨b, off, e, hb, hc⟩ := h.lies hn
    have hsz := hg.size
    have hbB := hA hn b off none e
    exact ⟨b, off, e, by omega, fun j u hu => (World.cell?_of_block (hg.block b hb (fun he => by have := hrow b he.symm; omega))).trans (hc j u hu)⟩⟩
theorem Cur.far {w w' : World} {g : Nat} {A : Option Addr} {n c B : Nat} {xs : List Nat} {row : Option Nat} (h : Cur w g A n c xs) (hg : w.grownBy w' row) (hrow : ∀ k, row = some k → B ≤ k) (hgB : g < B) (hA : 0 < n → ∀ b off sp, A = some ⟨b, off, sp⟩ → b < B) : Cur w' g A n c xs := by
  obtain ⟨hrd, hn, hne, i, hh, hi, hr, hc⟩ := h
  exact ⟨hrd.far hg hrow hA, hn, hne, i, hh, hi, hr, (hg.block g (lt_of_block hc) (fun e => by have := hrow g e.symm; omega)).trans hc⟩
theorem own_base {w : World} {base base' e n : Nat} {v : Value} {xs : List Value} (h : w.ownsRow base e 1 v n xs) (hb : base' ≤ base) : w.ownsRow base' e 1 v n xs := by
  obtain ⟨h1, h2⟩ := h
  refine ⟨h1, ?_⟩
  rcases h2 with h2 | ⟨g, cap, cur, hv, hg, r⟩
  · exact .inl h2
  · exact .inr ⟨g, cap, cur, hv, Nat.le_trans hb hg, r⟩
theorem own_far {w w' : World} {base e n g : Nat} {v : Value} {xs : List Value} (h : w.ownsRow base e 1 v n xs) (hg : w.grownBy w' (some g)) (hgb : g < base) : w'.ownsRow base e 1 v n xs :=
  h.kept hg (.inr (fun e => by have := (h.lt g e).1; omega))
theorem grownBy_far {a w w' : World} {g : Nat} {row : Option Nat} (h : a.grownBy w (some g)) (hg : w.grownBy w' row) (hrow : ∀ k, row = some k → a.heap.size ≤ k) : a.grownBy w' (some g) :=
  ⟨hg.os.trans h.os, hg.tape.trans h.tape, hg.output.trans h.output, Nat.le_trans h.size hg.size, fun k hk hne => (hg.block k (Nat.lt_of_lt_of_le hk h.size) (fun e => by have := hrow k e.symm; omega)).trans (h.block k hk hne)⟩

theorem Cur.grow {w w' : World} {g : Nat} {A : Option Addr} {n c : Nat} {xs : List Nat} (h : Cur w g A n c xs) (hb : Below w.heap.size w w') : Cur w' g A n c xs := by
  obtain ⟨hrd, hn, hne, i, hh, hi, hr, hc⟩ := h
  exact ⟨hrd.below hb, hn, hne, i, hh, hi, hr, (hb.block g (lt_of_block hc)).trans hc⟩

theorem Cur.setH {w : World} {g : Nat} {A : Option Addr} {n c : Nat} {xs : List Nat} (h : Cur w g A n c xs) (z : Int) (h1 : -9223372036854775808 ≤ z) (h2 : z ≤ 9223372036854775807) : Cur (w.setCell ⟨g, 2, none⟩ (.int .i64 z)) g A n c xs := by
  obtain ⟨hrd, hn, hne, i, hh, hi, hr, hc⟩ := h
  exact ⟨hrd.other0 (row := some g) (grown_setAt (World.grownBy.refl _ _) 2 _) (fun hn0 b off sp e he => hne hn0 b off sp e (by injection he)), hn, hne, i, z, hi, ⟨h1, h2⟩, block_set hc 2 _⟩
def NewRes (w : World) (A : Option Addr) (n c : Nat) (xs : List Nat) (e : Ending) (w' : World) : Prop :=
  e = .returned (.pointer (some ⟨w.heap.size, 0, none⟩)) ∧ w.heap.size < w'.heap.size ∧ Cur w' w.heap.size A n c xs ∧ Below w.heap.size w w'

theorem new_res (A : Option Addr) (n c : Nat) (h : Int) (xs : List Nat) (w : World) (hr : Rd w A n xs) (hn : n ≤ 1048576) (h0 : 0 ≤ h) (h1 : h ≤ 1073741823) :
    NewRes w A n c xs (.returned (.pointer (some ⟨w.heap.size, 0, none⟩))) (w.alloc (.cells #[.slice A n c, .int .i64 0, .int .i64 h] 74)) := by
  refine ⟨rfl, by simp, ⟨hr.alloc _, hn, fun hn0 b off sp e => ?_, 0, h, by omega, by omega, heap_alloc_new w _⟩, (Below.refl _ _).alloc (Nat.le_refl _) _⟩
  obtain ⟨b', off', e', hb, _⟩ := hr.lies hn0
  rw [e'] at e
  injection e with e
  injection e with e1 e2 e3
  omega
theorem low30 (z : Int) : ∃ r : Int, bits .and .i64 z 1073741823 = r ∧ 0 ≤ r ∧ r ≤ 1073741823 := by
  refine ⟨_, rfl, ?_⟩
  show 0 ≤ IntKind.i64.wrap ((BitVec.ofInt 64 z &&& BitVec.ofInt 64 1073741823).toNat : Int) ∧ IntKind.i64.wrap ((BitVec.ofInt 64 z &&& BitVec.ofInt 64 1073741823).toNat : Int) ≤ 1073741823
  have : (BitVec.ofInt 64 z &&& BitVec.ofInt 64 1073741823).toNat ≤ 1073741823 := by
    rw [BitVec.toNat_and]
    exact Nat.le_trans Nat.and_le_right (by decide)
  rw [IntKind.wrap_i64]
  omega

set_option maxRecDepth 100000 in
set_option maxHeartbeats 1000000 in
theorem drawNew (A : Option Addr) (n c : Nat) (xs : List Nat) (w : World) (hr : Rd w A n xs) (hn : n ≤ 1048576) :
    Calls Try.prog 28 #[.slice A n c] w (NewRes w A n c xs) := by
  go_enter Try.func28, Try.ntmps28
  go_wp2
  go_loop [3, 4] (fun t i => ∃ (k : Nat) (h : Int), k ≤ n ∧ k ≤ 4000 ∧ i = .int .i64 (k : Int) ∧ 0 ≤ h ∧ h ≤ 1073741823 ∧ t = .int .i64 h) (fun _ i => 4000 - (intOf i).toNat)
  case atStart => exact ⟨0, _, by omega, by omega, rfl, by omega, by omega, rfl⟩
  case round =>
    obtain ⟨k, h, hk, hk2, rfl, h0, h1, rfl⟩ := hrel
    by_cases hlt : k < n
    · obtain ⟨b, off, x, rfl, hbw, hx, hxs, hc⟩ := hr.at_ hlt
      by_cases h4 : k < 4000
      · obtain ⟨r, hb, hr0, hr1⟩ := low30 (h * 157 + x + 7)
        go_wp2
        go_round
        case rel => exact ⟨k + 1, r, by omega, by omega, by go_num, by omega, by omega, rfl⟩
        case measure => simp [intOf]; omega
      · have h5 : decide ((k : Int) < 4000) = false := decide_eq_false (by omega)
        go_wp2
        go_ret
        exact new_res _ n c h xs w hr hn (by omega) (by omega)
    · go_wp2
      go_ret
      exact new_res A n c h xs w hr hn (by omega) (by omega)
end Go.Proofs.Ytgmgpadijajkkaa
