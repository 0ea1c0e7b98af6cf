/- A shard with other values, as data; blocks of a shard in memory (plain lemmas; no condition). -/
import Derived.Test.YtmbabbapcjphgaaSBytesM
namespace Go.Proofs.Ytmbabbapcjphgaa
open Go.RowKit

def valsLo (lo hi : Int) (es : List KE) (l : List Int) : Int := if valsB lo hi es l then lo else 0
def valsHi (lo hi : Int) (es : List KE) (l : List Int) : Int := if valsB lo hi es l then hi else 0
def valsR (lo hi : Int) (es : List KE) (l : List Int) : List KE := if valsB lo hi es l then es.map (KE.put l) else []
theorem valsR_len (lo hi : Int) (es : List KE) (l : List Int) : (valsR lo hi es l).length ≤ 400 := by
  unfold valsR
  split
  · rename_i h
    unfold valsB at h
    rw [Bool.and_eq_true] at h
    rw [List.length_map]
    exact (shardB_iff h.1).2.2.2.1
  · simp
theorem vals_no {lo hi : Int} {es : List KE} {l : List Int} (h : valsB lo hi es l = false) : valsLo lo hi es l = 0 ∧ valsHi lo hi es l = 0 ∧ valsR lo hi es l = [] := by simp [valsLo, valsHi, valsR, h]
theorem vals_yes {lo hi : Int} {es : List KE} {l : List Int} (h : valsB lo hi es l = true) : valsLo lo hi es l = lo ∧ valsHi lo hi es l = hi ∧ valsR lo hi es l = es.map (KE.put l) := by simp [valsLo, valsHi, valsR, h]
theorem vals_bad {lo hi : Int} {es : List KE} {l : List Int} {k : Nat} {e : KE} (h : es[k]? = some e) (hx : numOk (valAt l e.i) = false) : valsB lo hi es l = false := by
  unfold valsB
  rw [Bool.and_eq_false_iff]
  refine .inr ?_
  rw [List.all_eq_false]
  exact ⟨e, List.mem_of_getElem? h, by simp [hx]⟩
theorem vals_all {lo hi : Int} {es : List KE} {l : List Int} (h : shardB lo hi es = true) (hx : es.all (fun e => numOk (valAt l e.i)) = true) : valsB lo hi es l = true := by
  unfold valsB
  rw [h, hx]
  rfl
theorem vals_step (l : List Int) (es : List KE) (k : Nat) (e : KE) (h : es[k]? = some e) : (es.take (k + 1)).all (fun e => numOk (valAt l e.i)) = ((es.take k).all (fun e => numOk (valAt l e.i)) && numOk (valAt l e.i)) := by
  rw [g_take es k e h]
  simp
theorem map_step (l : List Int) (es : List KE) (k : Nat) (e : KE) (h : es[k]? = some e) : (es.take (k + 1)).map (KE.put l) = (es.take k).map (KE.put l) ++ [e.put l] := by
  rw [g_take es k e h]
  simp
theorem valAt_in {l : List Int} {k : Nat} {x : Int} (h : l[k]? = some x) : valAt l (k : Int) = x := by
  unfold valAt
  rw [if_pos (by omega), Int.toNat_natCast, h]
  rfl
theorem valAt_out {l : List Int} {i : Int} (h : (l.length : Int) ≤ i) : numOk (valAt l i) = false := by
  unfold valAt
  rw [if_pos (by omega), List.getElem?_eq_none (by omega)]
  rfl
theorem ke_flat (l : List KE) (e : KE) : (l ++ [e]).flatMap KE.cells = l.flatMap KE.cells ++ [.int .i64 e.f, .int .i64 e.t, .int .i64 e.w, .int .i64 e.i, .int .i64 e.v] := by
  rw [List.flatMap_append]
  simp [KE.cells]
theorem five_reads (w : World) (e : KE) (t : TypeId) (g : Nat) (hg : g = w.heap.size) : Reads (w.alloc (.cells #[.int .i64 e.f, .int .i64 e.t, .int .i64 e.w, .int .i64 e.i, .int .i64 e.v] t)) (g + 1) 5 (some ⟨g, 0, none⟩) 1 [.int .i64 e.f, .int .i64 e.t, .int .i64 e.w, .int .i64 e.i, .int .i64 e.v] := by
  subst hg
  refine ⟨rfl, fun _ => ⟨_, rfl, by simp, fun j v hj => ?_⟩⟩
  match j, hj with
  | 0, hj => simp at hj; subst hj; simp [Addr.add]
  | 1, hj => simp at hj; subst hj; simp [Addr.add]
  | 2, hj => simp at hj; subst hj; simp [Addr.add]
  | 3, hj => simp at hj; subst hj; simp [Addr.add]
  | 4, hj => simp at hj; subst hj; simp [Addr.add]
theorem five_cells (e : KE) : ∀ u ∈ [Value.int .i64 e.f, .int .i64 e.t, .int .i64 e.w, .int .i64 e.i, .int .i64 e.v], u.oneCell' = true := e.cells_one
/-- A block that is a shard. -/
def SBlk (w : World) (b : Nat) (lo hi : Int) (A : Option Addr) (n c : Nat) : Prop := Blk w b #[.int .i64 lo, .int .i64 hi, .slice A n c] 35
theorem SBlk.new (w : World) (lo hi : Int) (A : Option Addr) (n c : Nat) : SBlk (w.alloc (.cells #[.int .i64 lo, .int .i64 hi, .slice A n c] 35)) w.heap.size lo hi A n c := Blk.new _ _ _
theorem SBlk.below {w w' : World} {b n c : Nat} {lo hi : Int} {A : Option Addr} (h : SBlk w b lo hi A n c) (hb : Below w.heap.size w w') : SBlk w' b lo hi A n c := Blk.below h hb
theorem SBlk.cells {w : World} {b n c : Nat} {lo hi : Int} {A : Option Addr} (h : SBlk w b lo hi A n c) : w.cell? ⟨b, 0, none⟩ = some (.int .i64 lo) ∧ w.cell? ⟨b, 1, none⟩ = some (.int .i64 hi) ∧ w.cell? ⟨b, 2, none⟩ = some (.slice A n c) :=
  ⟨Blk.cell h (i := 0) rfl, Blk.cell h (i := 1) rfl, Blk.cell h (i := 2) rfl⟩
theorem SBlk.edges {w : World} {b n c n' c' : Nat} {lo hi : Int} {A A' : Option Addr} (h : SBlk w b lo hi A n c) : SBlk (w.setCell ⟨b, 2, none⟩ (.slice A' n' c')) b lo hi A' n' c' := Blk.set h 2 _
theorem SBlk.hbox {w : World} {b n c : Nat} {lo hi : Int} {A : Option Addr} (h : SBlk w b lo hi A n c) : HBox w b lo hi A n c := ⟨Blk.lt h, h.cells.1, h.cells.2.1, h.cells.2.2⟩
theorem pk_form {w : World} {base e size n : Nat} {v : Value} {xs : List Value} (h : w.ownsRow base e size v n xs) : ∃ A c, v = .slice A n c := by
  rcases h.2 with ⟨rfl, rfl⟩ | ⟨g, cap, _, rfl, _⟩
  · exact ⟨_, _, rfl⟩
  · exact ⟨_, _, rfl⟩
end Go.Proofs.Ytmbabbapcjphgaa
