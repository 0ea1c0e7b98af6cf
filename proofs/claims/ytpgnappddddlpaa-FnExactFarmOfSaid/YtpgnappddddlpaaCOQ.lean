/- Words for records in memory (no condition). // Words for rows of records that a call makes (plain lemmas over the model; no condition). // Slices of records cut short (plain lemmas over the model; no condition). // Marks in lists of records of three numbers and of numbers, as data (no condition). // Records: the contracts of the laws' helpers that compare and that leave marks. Condition: at most 2^21 of each. // Batches of records in memory: that read, that are the call's own (plain lemmas over the model; no condition). // Plain mathematics of sorting records of three numbers: an order in full, insertion, what is sorted, cutting into batches (no condition). // Plain mathematics of merging lists of records: the first of the least heads is taken, again and again (no condition). // Plain mathematics of a tree of pairs over lists of records: what is drawn from it is what is taken from the lists one by one, the first of the least heads (no condition). // Plain mathematics of cutting a list of records into batches (no condition). -/
import Derived.Test.YtpgnappddddlpaaCOA
import Derived.WalkKit
namespace Go.Proofs.Ytpgnappddddlpaa
open Go.RowKit

theorem Try.infoRec : (Try.prog.info? 150).map (fun i => (i.zero, i.size, i.bytes)) = some (some (.agg #[.int .i64 0, .int .i64 0, .int .i64 0]), 3, 24) := by kernel_rfl
/-- New edges. -/
def MadeRc (w : World) (es : List GE) (e : Ending) (w' : World) : Prop :=
  ∃ A c, e = .returned (.slice A es.length c) ∧ w'.ownsRow w.heap.size 150 3 (.slice A es.length c) es.length (es.flatMap GE.cells) ∧ Below w.heap.size w w'
end Go.Proofs.Ytpgnappddddlpaa
namespace Go.Proofs.Ytpgnappddddlpaa
open Go.RowKit

theorem rec_form {w : World} {base e size n : Nat} {v : Value} {xs : List Value} (h : w.ownsRow base e size v n xs) : ∃ A c, v = .slice A n c := by
  rcases h.2 with ⟨rfl, rfl⟩ | ⟨g, cap, _, rfl, _⟩
  · exact ⟨_, _, rfl⟩
  · exact ⟨_, _, rfl⟩
theorem rec_built (w : World) : (w.alloc (.cells #[] 150)).ownsRow w.heap.size 150 3 (.slice (some ⟨w.heap.size, 0, none⟩) 0 0) 0 [] :=
  World.ownsRow_lit w #[] 0 (Nat.le_refl _) (by unfold maxLen; omega) rfl
theorem rec_below {w w1 : World} {o : Obj} {k c : Nat} (hg : (w.alloc o).grownBy w1 (Value.slice (some ⟨w.heap.size, 0, none⟩) k c).ownBlock) : Below w.heap.size w w1 :=
  ((Below.refl _ _).alloc (Nat.le_refl _) o).grown hg (by simp) (fun j hj => by simp [Value.ownBlock] at hj; omega)
/-- A new row of records. -/
def RowRc (w : World) (n : Nat) (es : List GE) (e : Ending) (w' : World) : Prop :=
  ∃ A c, e = .returned (.slice A n c) ∧ w'.ownsRow w.heap.size 150 3 (.slice A n c) n (es.flatMap GE.cells) ∧ Below w.heap.size w w'
theorem rec_one (es : List GE) : ∀ u ∈ es.flatMap GE.cells, u.oneCell' = true := fun u hu => by
  obtain ⟨e, _, he⟩ := List.mem_flatMap.1 hu
  simp only [GE.cells, List.mem_cons, List.not_mem_nil, or_false] at he
  rcases he with rfl | rfl | rfl <;> rfl
theorem rec_reads (w : World) (e : GE) (t : TypeId) (g : Nat) (hg : g = w.heap.size) : Reads (w.alloc (.cells #[.int .i64 e.f, .int .i64 e.t, .int .i64 e.w] t)) (g + 1) 3 (some ⟨g, 0, none⟩) 1 (GE.cells e) := by
  subst hg
  refine ⟨rfl, fun _ => ⟨_, rfl, by simp, fun j x hj => ?_⟩⟩
  match j, hj with
  | 0, hj => simp [GE.cells] at hj; subst hj; simp [Addr.add]
  | 1, hj => simp [GE.cells] at hj; subst hj; simp [Addr.add]
  | 2, hj => simp [GE.cells] at hj; subst hj; simp [Addr.add]
/-- A block that holds one record. -/
structure RBox (w : World) (b : Nat) (e : GE) : Prop where
  lt : b < w.heap.size
  c0 : w.cell? ⟨b, 0, none⟩ = some (.int .i64 e.f)
  c1 : w.cell? ⟨b, 1, none⟩ = some (.int .i64 e.t)
  c2 : w.cell? ⟨b, 2, none⟩ = some (.int .i64 e.w)
theorem RBox.below {w w' : World} {b : Nat} {e : GE} (h : RBox w b e) (hb : Below w.heap.size w w') : RBox w' b e :=
  ⟨Nat.lt_of_lt_of_le h.lt hb.size, (hb.cell (p := ⟨b, 0, none⟩) h.lt).trans h.c0, (hb.cell (p := ⟨b, 1, none⟩) h.lt).trans h.c1, (hb.cell (p := ⟨b, 2, none⟩) h.lt).trans h.c2⟩
theorem RBox.drew {w : World} {b : Nat} {e : GE} (h : RBox w b e) : RBox w.drew b e := ⟨h.lt, h.c0, h.c1, h.c2⟩
theorem RowRc.made {w : World} {n : Nat} {es : List GE} {e : Ending} {w' : World} (h : RowRc w n es e w') (hl : es.length = n) : MadeRc w es e w' := by
  subst hl
  exact h
end Go.Proofs.Ytpgnappddddlpaa
namespace Go.Proofs.Ytpgnappddddlpaa
open Go.RowKit

/-! ### slices of records cut short -/
theorem recElem : Try.prog.underlying 148 = some (.slice (Try.prog.elem 148)) := by simp [Program.elem, Try.underlying148]
theorem recElem' : Try.prog.elem 148 = 150 := by simp [Program.elem, Try.underlying148]
theorem recSize (w : World) : (Go.sizeOf 150).run Try.prog w = .ok 3 w := by kernel_rfl
theorem rec_add (b off k : Nat) : (⟨b, off, none⟩ : Addr).add k = ⟨b, off + k, none⟩ := by unfold Addr.add; split <;> simp_all
theorem rec_from {P : Option Addr} {n c k : Nat} {es : List GE} {w : World} (hr : SlG w P n es) (hk : k ≤ n) (hc : n ≤ c) :
    ∃ P', (∀ W, (Instr.slice 148 (.slice P n c) (some (.int .i64 (k : Int))) none none).run Try.prog W = .ok (.slice P' (n - k) (c - k)) W) ∧ SlG w P' (n - k) (es.drop k) := by
  refine ⟨if c = k then P else P.map (·.add (k * 3)), fun W => ?_, ?_⟩
  · rw [run_slice_l W _ _ _ _ recElem .i64 (k : Int) (by omega) (by omega), recElem', recSize, Int.toNat_natCast]
    rfl
  · refine ⟨by rw [List.length_drop, hr.len], by rw [flat_len GE.cells 3 GE.cells_len, List.length_drop, hr.len], fun hn => ?_⟩
    obtain ⟨b, off, rfl, hb, hcell⟩ := hr.row.lies (by omega)
    rw [if_neg (by omega)]
    refine ⟨b, off + k * 3, by simp [rec_add], hb, fun j u hu => ?_⟩
    have e := hcell (k * 3 + j) u
    rw [Nat.add_assoc]
    apply e
    have h1 := List.flatMap_append (f := GE.cells) (xs := es.take k) (ys := es.drop k)
    rw [List.take_append_drop] at h1
    rw [h1, List.getElem?_append_right (by rw [flat_len GE.cells 3 GE.cells_len, List.length_take, hr.len]; omega), flat_len GE.cells 3 GE.cells_len, List.length_take, hr.len, Nat.min_eq_left hk, Nat.add_sub_cancel_left]
    exact hu
theorem rec_most (g n c k : Nat) (hk : k ≤ n) (hc : n ≤ c) (W : World) :
    (Instr.slice 148 (.slice (some ⟨g, 0, none⟩) n c) none (some (.int .i64 (k : Int))) none).run Try.prog W = .ok (.slice (some ⟨g, 0, none⟩) k c) W := by
  rw [run_slice_h W _ _ _ _ recElem .i64 (k : Int) (by omega) (by omega), recElem', recSize, Int.toNat_natCast]
  simp [sliced, rec_add]
theorem own_most {w : World} {lo e g n c k : Nat} {es : List GE} (h : w.ownsRow lo e 3 (.slice (some ⟨g, 0, none⟩) n c) n (es.flatMap GE.cells)) (hl : es.length = n) (hk : k ≤ n) :
    w.ownsRow lo e 3 (.slice (some ⟨g, 0, none⟩) k c) k ((es.take k).flatMap GE.cells) := by
  obtain ⟨h1, h2⟩ := h
  rcases h2 with ⟨h2, _⟩ | ⟨g', cap, cur, hv, hb, hg, r1, r2, r3, r4⟩
  · cases h2
  · injection hv with e1 _ e3
    injection e1 with e1
    injection e1 with e1
    subst e1 e3
    refine ⟨by rw [flat_len GE.cells 3 GE.cells_len, List.length_take, hl]; omega, .inr ⟨g, c, cur, rfl, hb, hg, by omega, r2, r3, ?_⟩⟩
    have h4 := congrArg (List.take (k * 3)) r4
    rw [List.take_take, Nat.min_eq_left (by omega)] at h4
    rw [h4]
    have h5 := List.flatMap_append (f := GE.cells) (xs := es.take k) (ys := es.drop k)
    rw [List.take_append_drop] at h5
    rw [h5, List.take_left' (by rw [flat_len GE.cells 3 GE.cells_len, List.length_take, hl]; omega)]
theorem own_capR {w : World} {lo e size g n c : Nat} {xs : List Value} (h : w.ownsRow lo e size (.slice (some ⟨g, 0, none⟩) n c) n xs) : n ≤ c := by
  rcases h.2 with ⟨h2, _⟩ | ⟨g', cap, cur, hv, hb, hg, r1, r2, r3, r4⟩
  · cases h2
  · injection hv with _ _ e3
    omega

theorem flat_drop (es : List GE) (k : Nat) : (es.drop k).flatMap GE.cells = (es.flatMap GE.cells).drop (k * 3) := by
  have h1 := List.flatMap_append (f := GE.cells) (xs := es.take k) (ys := es.drop k)
  rw [List.take_append_drop] at h1
  by_cases hk : k ≤ es.length
  · rw [h1, List.drop_left' (by rw [flat_len GE.cells 3 GE.cells_len, List.length_take]; omega)]
  · rw [(List.drop_eq_nil_of_le (by omega) : es.drop k = []), (List.drop_eq_nil_of_le (by rw [flat_len GE.cells 3 GE.cells_len]; omega) : (es.flatMap GE.cells).drop (k * 3) = [])]
    rfl
theorem flat_take (es : List GE) (k : Nat) : (es.take k).flatMap GE.cells = (es.flatMap GE.cells).take (k * 3) := by
  have h1 := List.flatMap_append (f := GE.cells) (xs := es.take k) (ys := es.drop k)
  rw [List.take_append_drop] at h1
  by_cases hk : k ≤ es.length
  · rw [h1, List.take_left' (by rw [flat_len GE.cells 3 GE.cells_len, List.length_take]; omega)]
  · rw [List.take_of_length_le (l := es) (by omega), List.take_of_length_le (l := es.flatMap GE.cells) (by rw [flat_len GE.cells 3 GE.cells_len]; omega)]
/-- A piece of a slice of records reads. -/
theorem SlG.piece {w : World} {P : Option Addr} {n l m : Nat} {es : List GE} (hr : SlG w P n es) (hk : l + m ≤ n) (P' : Option Addr) (hP : ∀ b off, P = some ⟨b, off, none⟩ → 0 < m → P' = some ⟨b, off + l * 3, none⟩) : SlG w P' m ((es.drop l).take m) := by
  have hlen : ((es.drop l).take m).length = m := by rw [List.length_take, List.length_drop, hr.len]; omega
  refine ⟨hlen, by rw [flat_len GE.cells 3 GE.cells_len, hlen], fun hn => ?_⟩
  obtain ⟨b, off, rfl, hb, hcell⟩ := hr.row.lies (by omega)
  refine ⟨b, off + l * 3, hP b off rfl hn, hb, fun j u hu => ?_⟩
  rw [flat_take, flat_drop] at hu
  rw [List.getElem?_take] at hu
  split at hu
  · rw [List.getElem?_drop] at hu
    rw [Nat.add_assoc]
    exact hcell _ u hu
  · cases hu
theorem rec_mid {P : Option Addr} {n c l m : Nat} {es : List GE} {w : World} (hi : Int) (hr : SlG w P n es) (he : hi = (l : Int) + m) (hk : l + m ≤ n) (hc : n ≤ c) :
    ∃ P', (∀ W, (Instr.slice 148 (.slice P n c) (some (.int .i64 (l : Int))) (some (.int .i64 hi)) none).run Try.prog W = .ok (.slice P' m (c - l)) W) ∧ SlG w P' m ((es.drop l).take m) := by
  refine ⟨if c = l then P else P.map (·.add (l * 3)), fun W => ?_, hr.piece hk _ (fun b off hb hm => ?_)⟩
  · rw [run_slice_lh W _ _ _ _ recElem .i64 .i64 (l : Int) hi (by omega) (by omega) (by omega), recElem', recSize, Int.toNat_natCast]
    have e : hi.toNat = l + m := by omega
    rw [e]
    show Result.ok (sliced P l (l + m) c 3) W = _
    unfold sliced
    rw [Nat.add_sub_cancel_left]
  · rw [if_neg (by omega), hb]
    simp [rec_add]
end Go.Proofs.Ytpgnappddddlpaa
namespace Go.Proofs.Ytpgnappddddlpaa
open Go.RowKit

/-! ### marks -/
/-- The edges from k on bear the marks. -/
def markG (k : Nat) : List GE → List GE
  | [] => []
  | _ :: r => ⟨k, k + 1, k + 2⟩ :: markG (k + 3) r
def ints (k n : Nat) : List Int := (List.range n).map fun i => ((k + i : Nat) : Int)
theorem ints_len (k n : Nat) : (ints k n).length = n := by simp [ints]
theorem ints_get (k n i : Nat) (h : i < n) : (ints k n)[i]? = some ((k + i : Nat) : Int) := by simp [ints, h]
/-- The first i of a list bear marks. -/
def markI (k : Nat) (xs : List Int) (i : Nat) : List Int := ints k i ++ xs.drop i
theorem markI_zero (k : Nat) (xs : List Int) : markI k xs 0 = xs := by simp [markI, ints]
theorem markI_full (k : Nat) (xs : List Int) : markI k xs xs.length = ints k xs.length := by simp [markI]
theorem markI_step (k : Nat) (xs : List Int) (i : Nat) (h : i < xs.length) : (vi (markI k xs i)).set i (.int .i64 ((k + i : Nat) : Int)) = vi (markI k xs (i + 1)) := by
  have hd : xs.drop i = xs[i] :: xs.drop (i + 1) := List.drop_eq_getElem_cons h
  unfold markI
  rw [hd, vi_append, vi_append]
  rw [List.set_append_right _ _ (by rw [vi_len, ints_len]; exact Nat.le_refl _), vi_len, ints_len, Nat.sub_self]
  have : ints k (i + 1) = ints k i ++ [((k + i : Nat) : Int)] := by simp [ints, List.range_succ]
  rw [this, vi_append, List.append_assoc]
  rfl
theorem markI_len (k : Nat) (xs : List Int) (i : Nat) (h : i ≤ xs.length) : (markI k xs i).length = xs.length := by
  simp [markI, ints_len]; omega
def MarkedI (w : World) (lo k : Nat) (A : Option Addr) (n c : Nat) (e : Ending) (w' : World) : Prop :=
  e = .returned (.int .i64 ((k + n : Nat) : Int)) ∧ w'.ownsRow lo 3 1 (.slice A n c) n (vi (ints k n)) ∧ w.grownBy w' (Value.slice A n c).ownBlock

/-! ### marks in edges -/
theorem markG_len : ∀ (es : List GE) (k : Nat), (markG k es).length = es.length
  | [], _ => rfl
  | _ :: r, k => by rw [markG, List.length_cons, markG_len r, List.length_cons]
theorem markG_snoc : ∀ (es : List GE) (k : Nat) (e : GE), markG k (es ++ [e]) = markG k es ++ [⟨(k + 3 * es.length : Nat), (k + 3 * es.length : Nat) + 1, (k + 3 * es.length : Nat) + 2⟩]
  | [], k, _ => by simp [markG]
  | _ :: r, k, e => by
    rw [List.cons_append, markG, markG_snoc r (k + 3) e, markG, List.cons_append, List.length_cons, show k + 3 + 3 * r.length = k + 3 * (r.length + 1) by omega]
theorem markG_get : ∀ (es : List GE) (k j : Nat), j < es.length → (markG k es)[j]? = some ⟨((k + 3 * j : Nat) : Int), ((k + 3 * j : Nat) : Int) + 1, ((k + 3 * j : Nat) : Int) + 2⟩
  | [], _, j, h => by simp at h
  | _ :: r, k, 0, _ => by simp [markG]
  | _ :: r, k, j + 1, h => by
    rw [markG, List.getElem?_cons_succ, markG_get r (k + 3) j (by simpa using h), show k + 3 + 3 * j = k + 3 * (j + 1) by omega]

end Go.Proofs.Ytpgnappddddlpaa
namespace Go.Proofs.Ytpgnappddddlpaa
open Go.RowKit

def MarkedRc (w : World) (lo k : Nat) (A : Option Addr) (n c : Nat) (es : List GE) (e : Ending) (w' : World) : Prop :=
  e = .returned (.int .i64 ((k + 3 * n : Nat) : Int)) ∧ w'.ownsRow lo 150 3 (.slice A n c) n ((markG k es).flatMap GE.cells) ∧ w.grownBy w' (Value.slice A n c).ownBlock
/-- The same, its number under a name. -/
def Marked3 (w : World) (lo kk : Nat) (A : Option Addr) (n c k : Nat) (es : List GE) (e : Ending) (w' : World) : Prop :=
  e = .returned (.int .i64 (kk : Int)) ∧ w'.ownsRow lo 150 3 (.slice A n c) n ((markG k es).flatMap GE.cells) ∧ w.grownBy w' (Value.slice A n c).ownBlock
theorem MarkedRc.to3 {w : World} {lo k : Nat} {A : Option Addr} {n c : Nat} {es : List GE} {e : Ending} {w' : World} (h : MarkedRc w lo k A n c es e w') : Marked3 w lo (k + 3 * n) A n c k es e w' := h

end Go.Proofs.Ytpgnappddddlpaa
namespace Go.Proofs.Ytpgnappddddlpaa
open Go.RowKit

/-- A batch. -/
structure BE where
  A : Option Addr
  n : Nat
  c : Nat
  es : List GE
def BE.v (e : BE) : Value := .slice e.A e.n e.c
def BE.cells (e : BE) : List Value := [.slice e.A e.n e.c]
theorem BE.cells_len (e : BE) : e.cells.length = 1 := rfl
theorem BE.cells_one (e : BE) : ∀ u ∈ e.cells, u.oneCell' = true := by
  intro u hu
  simp only [BE.cells, List.mem_cons, List.not_mem_nil, or_false] at hu
  subst hu
  rfl
structure BE.Ok (w : World) (e : BE) : Prop where
  rd : SlG w e.A e.n e.es
  cap : e.n ≤ e.c
theorem BE.Ok.below {w w' : World} {e : BE} (h : e.Ok w) (hb : Below w.heap.size w w') : e.Ok w' := ⟨h.rd.below hb, h.cap⟩
/-- A slice of batches in memory. -/
structure SlT (w : World) (A : Option Addr) (n : Nat) (bs : List BE) : Prop where
  len : bs.length = n
  row : Row w 1 A n (bs.flatMap BE.cells)
  each : ∀ e ∈ bs, e.Ok w
def ApartT (a b : BE) : Prop := a.v.ownBlock = none ∨ a.v.ownBlock ≠ b.v.ownBlock
/-- Rows of records of the call's own. -/
structure OwnL (w : World) (lo : Nat) (l : List BE) : Prop where
  own : ∀ d ∈ l, w.ownsRow lo 150 3 d.v d.n (d.es.flatMap GE.cells)
  len : ∀ d ∈ l, d.es.length = d.n
  apart : l.Pairwise ApartT
section
variable {w w' : World} {lo : Nat} {l m : List BE}
theorem OwnL.nil : OwnL w lo [] := ⟨by simp, by simp, List.Pairwise.nil⟩
theorem OwnL.kept {row : Option Nat} (h : OwnL w lo l) (hg : w.grownBy w' row) (hne : ∀ d ∈ l, d.v.ownBlock = none ∨ d.v.ownBlock ≠ row) : OwnL w' lo l :=
  ⟨fun d hd => (h.own d hd).kept hg (hne d hd), h.len, h.apart⟩
theorem OwnL.below (h : OwnL w lo l) (hb : Below w.heap.size w w') : OwnL w' lo l :=
  ⟨fun d hd => own_below (h.own d hd) hb, h.len, h.apart⟩
theorem OwnL.lt (h : OwnL w lo l) {d : BE} (hd : d ∈ l) : ∀ k, d.v.ownBlock = some k → lo ≤ k ∧ k < w.heap.size := (h.own d hd).lt
theorem OwnL.ok (h : OwnL w lo l) : ∀ d ∈ l, d.Ok w := fun d hd => ⟨SlG.of_own (h.own d hd) (h.len d hd), bat_cap (h.own d hd)⟩
theorem OwnL.far (h : OwnL w lo l) {g : Nat} {cur : Array Value} {t : TypeId} {fr : Nat × Nat} (hg : w.heap[g]? = some (.cells cur t fr)) (ht : t ≠ 150) : ∀ d ∈ l, d.v.ownBlock = none ∨ d.v.ownBlock ≠ some g := fun d hd => by
  rcases (h.own d hd).2 with ⟨e, _⟩ | ⟨g', cap, cur', e, _, hg', _⟩
  · exact .inl (by rw [e]; rfl)
  · refine .inr (fun e2 => ?_)
    rw [e] at e2
    have e3 : g' = g := by simpa [Value.ownBlock] using e2
    subst e3
    rw [hg] at hg'
    injection hg' with hg'
    injection hg' with _ h2
    exact ht h2
theorem OwnL.append (h : OwnL w lo l) (k : OwnL w lo m) (hx : ∀ a ∈ l, ∀ b ∈ m, ApartT a b) : OwnL w lo (l ++ m) :=
  ⟨fun d hd => by rcases List.mem_append.1 hd with hd | hd; exact h.own d hd; exact k.own d hd,
   fun d hd => by rcases List.mem_append.1 hd with hd | hd; exact h.len d hd; exact k.len d hd,
   List.pairwise_append.2 ⟨h.apart, k.apart, hx⟩⟩
theorem apartT_of_time {B lo' : Nat} (h : OwnL w lo l) (hB : w.heap.size ≤ B) (k : OwnL w' lo' m) (hB' : B ≤ lo') : ∀ a ∈ l, ∀ b ∈ m, ApartT a b := fun a ha b hb => by
  cases e : a.v.ownBlock with
  | none => exact .inl e
  | some i =>
    refine .inr (fun e2 => ?_)
    rw [e] at e2
    have h1 := h.lt ha i e
    have h2 := k.lt hb i e2.symm
    omega
theorem OwnL.one {d : BE} (h : w.ownsRow lo 150 3 d.v d.n (d.es.flatMap GE.cells)) (hs : d.es.length = d.n) : OwnL w lo [d] :=
  ⟨fun e he => by simp at he; subst he; exact h, fun e he => by simp at he; subst he; exact hs, by simp⟩
theorem OwnL.mono {lo' : Nat} (h : OwnL w lo l) (hl : lo' ≤ lo) : OwnL w lo' l := ⟨fun d hd => own_monoG (h.own d hd) hl, h.len, h.apart⟩
theorem OwnL.setLow (h : OwnL w lo l) {p : Addr} (hp : p.block < lo) (u : Value) : OwnL (w.setCell p u) lo l := ⟨fun d hd => own_lowG (h.own d hd) hp u, h.len, h.apart⟩
theorem OwnL.turn {d : BE} {ys : List GE} (h : OwnL w lo (l ++ d :: m)) (hg : w.grownBy w' d.v.ownBlock) (ho : w'.ownsRow lo 150 3 d.v d.n (ys.flatMap GE.cells)) (hs : ys.length = d.n) :
    OwnL w' lo (l ++ (⟨d.A, d.n, d.c, ys⟩ : BE) :: m) := by
  obtain ⟨a1, a2, a3⟩ := List.pairwise_append.1 h.apart
  obtain ⟨b1, b2⟩ := List.pairwise_cons.1 a2
  have hl : ∀ e ∈ l, w'.ownsRow lo 150 3 e.v e.n (e.es.flatMap GE.cells) := fun e he => (h.own e (List.mem_append_left _ he)).kept hg (a3 e he d (by simp))
  have hm : ∀ e ∈ m, w'.ownsRow lo 150 3 e.v e.n (e.es.flatMap GE.cells) := fun e he => by
    refine (h.own e (List.mem_append_right _ (by simp [he]))).kept hg ?_
    rcases b1 e he with h1 | h1
    · rw [h1]
      cases e.v.ownBlock <;> simp
    · exact .inr (fun e2 => h1 e2.symm)
  refine ⟨fun e he => ?_, fun e he => ?_, List.pairwise_append.2 ⟨a1, List.pairwise_cons.2 ⟨fun e he => b1 e he, b2⟩, fun e he f hf => ?_⟩⟩
  · rcases List.mem_append.1 he with he | he
    · exact hl e he
    · rcases List.mem_cons.1 he with rfl | he
      · exact ho
      · exact hm e he
  · rcases List.mem_append.1 he with he | he
    · exact h.len e (List.mem_append_left _ he)
    · rcases List.mem_cons.1 he with rfl | he
      · exact hs
      · exact h.len e (List.mem_append_right _ (by simp [he]))
  · rcases List.mem_cons.1 hf with rfl | hf
    · exact a3 e he d (by simp)
    · exact a3 e he f (by simp [hf])
end
/-- Batches of the call's own. -/
structure OwnT (w : World) (lo : Nat) (A : Option Addr) (n c : Nat) (bs : List BE) : Prop where
  row : w.ownsRow lo 196 1 (.slice A n c) n (bs.flatMap BE.cells)
  len : bs.length = n
  dat : OwnL w lo bs
section
variable {w w' : World} {n c lo : Nat} {A : Option Addr} {bs : List BE}
theorem SlT.below (h : SlT w A n bs) (hb : Below w.heap.size w w') : SlT w' A n bs := ⟨h.len, h.row.keep hb.size hb.block, fun e he => (h.each e he).below hb⟩
theorem SlT.at_ {j : Nat} (h : SlT w A n bs) (hj : j < n) : ∃ (b off : Nat) (e : BE), A = some ⟨b, off, none⟩ ∧ b < w.heap.size ∧ Hid (bs[j]? = some e) ∧ Hid (e.Ok w) ∧ w.cell? ⟨b, off + j, none⟩ = some (.slice e.A e.n e.c) := by
  obtain ⟨b, off, rfl, hb, hc⟩ := h.row.lies (by omega)
  have hl : j < bs.length := by have := h.len; omega
  have he : bs[j]? = some bs[j] := List.getElem?_eq_getElem hl
  refine ⟨b, off, bs[j], rfl, hb, he, h.each _ (List.getElem_mem hl), ?_⟩
  have h1 := hc (j * 1) _ (flat_get BE.cells 1 BE.cells_len bs j 0 _ he (by omega))
  rwa [Nat.mul_one] at h1
theorem OwnT.sl (h : OwnT w lo A n c bs) : SlT w A n bs := ⟨h.len, Row.of_own h.row, h.dat.ok⟩
theorem OwnT.below (h : OwnT w lo A n c bs) (hb : Below w.heap.size w w') : OwnT w' lo A n c bs := ⟨own_below h.row hb, h.len, h.dat.below hb⟩
theorem OwnT.mono {lo' : Nat} (h : OwnT w lo A n c bs) (hl : lo' ≤ lo) : OwnT w lo' A n c bs := ⟨own_monoG h.row hl, h.len, h.dat.mono hl⟩
/-- Where the blocks that are written were made elsewhere in time. -/
theorem OwnT.kept {row : Option Nat} (h : OwnT w lo A n c bs) (hg : w.grownBy w' row) (hne : ∀ k, row = some k → ¬ (lo ≤ k ∧ k < w.heap.size)) : OwnT w' lo A n c bs := by
  have hx : ∀ {e size m : Nat} {v : Value} {xs : List Value}, w.ownsRow lo e size v m xs → v.ownBlock = none ∨ v.ownBlock ≠ row := fun ho => by
    rename_i v _
    cases hv : v.ownBlock with
    | none => exact .inl rfl
    | some k => exact .inr (fun e => hne k e.symm (ho.lt k hv))
  exact ⟨h.row.kept hg (hx h.row), h.len, h.dat.kept hg (fun d hd => hx (h.dat.own d hd))⟩
end
theorem OwnL.grow {w w' : World} {lo lo' e size n : Nat} {l : List BE} {v : Value} {xs : List Value} (h : OwnL w lo l) (hv : w.ownsRow lo' e size v n xs) (hne : e ≠ 150) (hg : w.grownBy w' v.ownBlock) : OwnL w' lo l := by
  rcases hv.2 with ⟨rfl, _⟩ | ⟨g, cap, cur, rfl, _, hcell, _⟩
  · exact h.kept hg (fun d _ => by cases d.v.ownBlock <;> simp [Value.ownBlock])
  · exact h.kept hg (h.far hcell hne)
theorem Try.infoBatch : (Try.prog.info? 196).map (fun i => (i.zero, i.size, i.bytes)) = some (some (.agg #[.slice none 0 0]), 1, 24) := by kernel_rfl
theorem bat_built (w : World) : (w.alloc (.cells #[] 196)).ownsRow w.heap.size 196 1 (.slice (some ⟨w.heap.size, 0, none⟩) 0 0) 0 [] :=
  World.ownsRow_lit w #[] 0 (Nat.le_refl _) (by unfold maxLen; omega) rfl
theorem bat_reads (w : World) (e : BE) (t : TypeId) (g : Nat) (hg : g = w.heap.size) : Reads (w.alloc (.cells #[.slice e.A e.n e.c] t)) (g + 1) 1 (some ⟨g, 0, none⟩) 1 (BE.cells e) := by
  subst hg
  refine ⟨rfl, fun _ => ⟨_, rfl, by simp, fun j x hj => ?_⟩⟩
  match j, hj with
  | 0, hj => simp [BE.cells] at hj; subst hj; simp [Addr.add]
/-- New batches with these records. -/
def MadeT (w : World) (ls : List (List GE)) (e : Ending) (w' : World) : Prop :=
  ∃ A n c bs, e = .returned (.slice A n c) ∧ OwnT w' w.heap.size A n c bs ∧ bs.map BE.es = ls ∧ Below w.heap.size w w'
end Go.Proofs.Ytpgnappddddlpaa
namespace Go.Proofs.Ytpgnappddddlpaa

/-- Field after field. -/
def lessR (x y : GE) : Bool := if x.f ≠ y.f then decide (x.f < y.f) else if x.t ≠ y.t then decide (x.t < y.t) else decide (x.w < y.w)
theorem lessR_iff (x y : GE) : lessR x y = true ↔ x.f < y.f ∨ (x.f = y.f ∧ (x.t < y.t ∨ (x.t = y.t ∧ x.w < y.w))) := by
  unfold lessR
  by_cases h1 : x.f = y.f
  · rw [if_neg (by simp [h1])]
    by_cases h2 : x.t = y.t
    · rw [if_neg (by simp [h2]), decide_eq_true_iff]; omega
    · rw [if_pos h2, decide_eq_true_iff]; omega
  · rw [if_pos h1, decide_eq_true_iff]; omega
theorem lessR_no (x y : GE) : lessR x y = false ↔ ¬ (x.f < y.f ∨ (x.f = y.f ∧ (x.t < y.t ∨ (x.t = y.t ∧ x.w < y.w)))) := by
  rw [← lessR_iff]; simp
def leR (x y : GE) : Prop := lessR y x = false
theorem leR_refl (x : GE) : leR x x := by unfold leR; rw [lessR_no]; omega
theorem leR_trans {x y z : GE} (h1 : leR x y) (h2 : leR y z) : leR x z := by
  unfold leR at *
  rw [lessR_no] at *
  omega
theorem leR_total (x y : GE) : leR x y ∨ leR y x := by
  unfold leR
  rw [lessR_no, lessR_no]
  omega
theorem leR_antisymm {x y : GE} (h1 : leR x y) (h2 : leR y x) : x = y := by
  unfold leR at *
  rw [lessR_no] at *
  obtain ⟨a, b, c⟩ := x
  obtain ⟨a', b', c'⟩ := y
  simp only at *
  have : a = a' ∧ b = b' ∧ c = c' := by omega
  obtain ⟨rfl, rfl, rfl⟩ := this
  rfl
theorem leR_of_less {x y : GE} (h : lessR x y = true) : leR x y := by
  unfold leR
  rw [lessR_no]
  rw [lessR_iff] at h
  omega
def SortedR (l : List GE) : Prop := l.Pairwise leR
/-- One record put in behind all that are not greater. -/
def insR (x : GE) : List GE → List GE
  | [] => [x]
  | y :: r => if lessR x y then x :: y :: r else y :: insR x r
def sortR (l : List GE) : List GE := l.foldl (fun out x => insR x out) []
theorem insR_perm (x : GE) : ∀ l, (insR x l).Perm (x :: l)
  | [] => List.Perm.refl _
  | y :: r => by
    unfold insR
    split
    · exact List.Perm.refl _
    · exact ((insR_perm x r).cons y).trans (List.Perm.swap x y r)
theorem insR_sorted (x : GE) : ∀ l, SortedR l → SortedR (insR x l)
  | [], _ => by simp [insR, SortedR]
  | y :: r, h => by
    unfold SortedR at h
    rw [List.pairwise_cons] at h
    unfold insR
    split
    · rename_i hl
      unfold SortedR
      rw [List.pairwise_cons]
      refine ⟨fun z hz => ?_, List.pairwise_cons.2 h⟩
      rcases List.mem_cons.1 hz with rfl | hz
      · exact leR_of_less hl
      · exact leR_trans (leR_of_less hl) (h.1 z hz)
    · rename_i hl
      unfold SortedR
      rw [List.pairwise_cons]
      refine ⟨fun z hz => ?_, insR_sorted x r h.2⟩
      rcases List.mem_cons.1 ((insR_perm x r).mem_iff.1 hz) with rfl | hz
      · unfold leR; simpa using hl
      · exact h.1 z hz
theorem fold_perm : ∀ (l out : List GE), (l.foldl (fun out x => insR x out) out).Perm (out ++ l)
  | [], out => by simp
  | x :: r, out => by
    rw [List.foldl_cons]
    refine (fold_perm r _).trans ?_
    refine ((insR_perm x out).append_right r).trans ?_
    rw [List.cons_append]
    exact (List.perm_middle).symm
theorem fold_sorted : ∀ (l out : List GE), SortedR out → SortedR (l.foldl (fun out x => insR x out) out)
  | [], _, h => h
  | x :: r, out, h => by rw [List.foldl_cons]; exact fold_sorted r _ (insR_sorted x out h)
theorem sortR_perm (l : List GE) : (sortR l).Perm l := by simpa [sortR] using fold_perm l []
theorem sortR_sorted (l : List GE) : SortedR (sortR l) := fold_sorted l [] (by simp [SortedR])
/-- Two sorted lists of the same records are the same. -/
theorem sorted_unique : ∀ (l m : List GE), SortedR l → SortedR m → l.Perm m → l = m
  | [], m, _, _, h => by simpa using h.symm
  | x :: r, [], _, _, h => by simp at h
  | x :: r, y :: s, hl, hm, h => by
    unfold SortedR at hl hm
    rw [List.pairwise_cons] at hl hm
    have hxy : x = y := by
      have hx : x ∈ y :: s := h.mem_iff.1 (by simp)
      have hy : y ∈ x :: r := h.mem_iff.2 (by simp)
      rcases List.mem_cons.1 hx with e | hx
      · exact e
      · rcases List.mem_cons.1 hy with e | hy
        · exact e.symm
        · exact leR_antisymm (hl.1 y hy) (hm.1 x hx)
    subst hxy
    rw [sorted_unique r s hl.2 hm.2 ((List.perm_cons x).1 h)]
theorem sorted_is {l m : List GE} (h : SortedR m) (hp : m.Perm l) : m = sortR l := sorted_unique _ _ h (sortR_sorted l) (hp.trans (sortR_perm l).symm)
/-- Neighbours alone are asked. -/
def sortedB : List GE → Bool
  | [] => true
  | [_] => true
  | x :: y :: r => !lessR y x && sortedB (y :: r)
theorem sortedB_iff : ∀ l, sortedB l = true ↔ SortedR l
  | [] => by simp [sortedB, SortedR]
  | [x] => by simp [sortedB, SortedR]
  | x :: y :: r => by
    have ih := sortedB_iff (y :: r)
    unfold sortedB
    rw [Bool.and_eq_true, ih]
    unfold SortedR
    rw [List.pairwise_cons (a := x)]
    constructor
    · rintro ⟨h1, h2⟩
      refine ⟨fun z hz => ?_, h2⟩
      have hxy : leR x y := by unfold leR; simpa using h1
      rcases List.mem_cons.1 hz with rfl | hz
      · exact hxy
      · exact leR_trans hxy ((List.pairwise_cons.1 h2).1 z hz)
    · rintro ⟨h1, h2⟩
      have := h1 y (by simp)
      unfold leR at this
      exact ⟨by rw [this]; rfl, h2⟩
theorem sortedB_at {l : List GE} (h : ∀ i x y, l[i]? = some x → l[i + 1]? = some y → lessR y x = false) : sortedB l = true := by
  induction l with
  | nil => rfl
  | cons x r ih =>
    cases r with
    | nil => rfl
    | cons y s =>
      unfold sortedB
      rw [h 0 x y rfl rfl, ih (fun i a b h1 h2 => h (i + 1) a b (by simpa using h1) (by simpa using h2))]
      rfl
theorem sortedB_no {l : List GE} {i : Nat} {x y : GE} (h1 : l[i]? = some x) (h2 : l[i + 1]? = some y) (h : lessR y x = true) : sortedB l = false := by
  cases hh : sortedB l with
  | false => rfl
  | true =>
    have hs := (sortedB_iff l).1 hh
    unfold SortedR at hs
    obtain ⟨g1, rfl⟩ := List.getElem?_eq_some_iff.1 h1
    obtain ⟨g2, rfl⟩ := List.getElem?_eq_some_iff.1 h2
    have := List.pairwise_iff_getElem.1 hs i (i + 1) g1 g2 (by omega)
    unfold leR at this
    rw [h] at this
    cases this
/-- Insertion at a place: behind all that are not greater. -/
theorem insR_at (x : GE) : ∀ (l : List GE) (k : Nat), (∀ y ∈ l.take k, lessR x y = false) → k ≤ l.length → (∀ y, l[k]? = some y → lessR x y = true) → insR x l = l.take k ++ x :: l.drop k
  | [], k, _, hk, _ => by simp at hk; subst hk; rfl
  | y :: r, 0, _, _, h => by
    have := h y rfl
    simp [insR, this]
  | y :: r, k + 1, h1, hk, h2 => by
    have hy := h1 y (by simp)
    unfold insR
    rw [if_neg (by rw [hy]; simp), insR_at x r k (fun z hz => h1 z (by simp [hz])) (by simpa using hk) (fun z hz => h2 z (by simpa using hz))]
    rfl
/-- Cut into batches of k. -/
def chunks (k : Nat) : Nat → List GE → List (List GE)
  | 0, _ => []
  | fuel + 1, l => if l = [] then [] else l.take k :: chunks k fuel (l.drop k)
end Go.Proofs.Ytpgnappddddlpaa
namespace Go.Proofs.Ytpgnappddddlpaa

/-- The first of the least heads, with its place; 'b': the best so far. -/
def bestFrom : Nat → Option (Nat × GE) → List (List GE) → Option (Nat × GE)
  | _, b, [] => b
  | i, b, [] :: r => bestFrom (i + 1) b r
  | i, none, (x :: _) :: r => bestFrom (i + 1) (some (i, x)) r
  | i, some (j, y), (x :: _) :: r => bestFrom (i + 1) (if lessR x y then some (i, x) else some (j, y)) r
def bestR (rs : List (List GE)) : Option (Nat × GE) := bestFrom 0 none rs
def mergeR : Nat → List (List GE) → List GE
  | 0, _ => []
  | n + 1, rs => match bestR rs with
    | none => []
    | some (i, x) => x :: mergeR n (rs.modify i List.tail)
def totalR (rs : List (List GE)) : Nat := (rs.map List.length).sum
theorem bestFrom_none : ∀ (rs : List (List GE)) (i : Nat) (b : Option (Nat × GE)), bestFrom i b rs = none → b = none ∧ ∀ l ∈ rs, l = []
  | [], _, b, h => by simp only [bestFrom] at h; exact ⟨h, by simp⟩
  | [] :: r, i, b, h => by
    rw [bestFrom] at h
    obtain ⟨h1, h2⟩ := bestFrom_none r _ _ h
    exact ⟨h1, fun l hl => (List.mem_cons.1 hl).elim id (h2 l)⟩
  | (x :: t) :: r, i, none, h => by
    rw [bestFrom] at h
    cases (bestFrom_none r _ _ h).1
  | (x :: t) :: r, i, some (j, y), h => by
    rw [bestFrom] at h
    have := (bestFrom_none r _ _ h).1
    split at this <;> cases this
theorem bestFrom_some : ∀ (rs : List (List GE)) (i : Nat) (b : Option (Nat × GE)) (j : Nat) (x : GE), bestFrom i b rs = some (j, x) →
    (b = some (j, x) ∨ ∃ k t, j = i + k ∧ rs[k]? = some (x :: t)) ∧ (∀ j' y, b = some (j', y) → leR x y) ∧ ∀ l ∈ rs, ∀ y t, l = y :: t → leR x y
  | [], _, b, j, x, h => by
    simp only [bestFrom] at h
    exact ⟨.inl h, fun j' y e => by rw [h] at e; injection e with e; injection e with _ e; subst e; exact leR_refl _, by simp⟩
  | [] :: r, i, b, j, x, h => by
    rw [bestFrom] at h
    obtain ⟨h1, h2, h3⟩ := bestFrom_some r _ _ _ _ h
    refine ⟨h1.elim .inl (fun ⟨k, t, e, g⟩ => .inr ⟨k + 1, t, by omega, by simpa using g⟩), h2, fun l hl y t e => ?_⟩
    rcases List.mem_cons.1 hl with rfl | hl
    · cases e
    · exact h3 l hl y t e
  | (z :: t) :: r, i, none, j, x, h => by
    rw [bestFrom] at h
    obtain ⟨h1, h2, h3⟩ := bestFrom_some r _ _ _ _ h
    have hz : leR x z := h2 i z rfl
    refine ⟨.inr ?_, fun _ _ e => (by cases e), fun l hl y s e => ?_⟩
    · rcases h1 with e | ⟨k, s, e, g⟩
      · injection e with e
        injection e with e1 e2
        exact ⟨0, t, by omega, by rw [← e2]; rfl⟩
      · exact ⟨k + 1, s, by omega, by simpa using g⟩
    · rcases List.mem_cons.1 hl with rfl | hl
      · injection e with e1 _
        rw [← e1]; exact hz
      · exact h3 l hl y s e
  | (z :: t) :: r, i, some (q, y), j, x, h => by
    rw [bestFrom] at h
    obtain ⟨h1, h2, h3⟩ := bestFrom_some r _ _ _ _ h
    by_cases hl : lessR z y = true
    · rw [if_pos hl] at h1 h2
      have hz : leR x z := h2 i z rfl
      have hzy := leR_of_less hl
      refine ⟨.inr ?_, fun j' y' e => ?_, fun l hl' y' s e => ?_⟩
      · rcases h1 with e | ⟨k, s, e, g⟩
        · injection e with e
          injection e with e1 e2
          exact ⟨0, t, by omega, by rw [← e2]; rfl⟩
        · exact ⟨k + 1, s, by omega, by simpa using g⟩
      · injection e with e
        injection e with _ e
        rw [← e]; exact leR_trans hz hzy
      · rcases List.mem_cons.1 hl' with rfl | hl'
        · injection e with e1 _
          rw [← e1]; exact hz
        · exact h3 l hl' y' s e
    · rw [if_neg hl] at h1 h2
      have hy : leR x y := h2 q y rfl
      have hyz : leR y z := by unfold leR; simpa using hl
      refine ⟨h1.elim .inl (fun ⟨k, s, e, g⟩ => .inr ⟨k + 1, s, by omega, by simpa using g⟩), fun j' y' e => ?_, fun l hl' y' s e => ?_⟩
      · injection e with e
        injection e with _ e
        rw [← e]; exact hy
      · rcases List.mem_cons.1 hl' with rfl | hl'
        · injection e with e1 _
          rw [← e1]; exact leR_trans hy hyz
        · exact h3 l hl' y' s e
theorem bestR_some {rs : List (List GE)} {i : Nat} {x : GE} (h : bestR rs = some (i, x)) : ∃ t, rs[i]? = some (x :: t) ∧ ∀ l ∈ rs, ∀ y s, l = y :: s → leR x y := by
  obtain ⟨h1, _, h3⟩ := bestFrom_some rs 0 none i x h
  rcases h1 with e | ⟨k, t, e, g⟩
  · cases e
  · rw [Nat.zero_add] at e
    subst e
    exact ⟨t, g, h3⟩
theorem flat_modify : ∀ (rs : List (List GE)) (i : Nat) (x : GE) (t : List GE), rs[i]? = some (x :: t) → rs.flatten.Perm (x :: (rs.modify i List.tail).flatten)
  | [], _, _, _, h => by simp at h
  | l :: r, 0, x, t, h => by
    simp at h
    subst h
    simp
  | l :: r, i + 1, x, t, h => by
    have ih := flat_modify r i x t (by simpa using h)
    simp only [List.flatten_cons, List.modify_succ_cons]
    exact (ih.append_left l).trans List.perm_middle
theorem total_flat (rs : List (List GE)) : totalR rs = rs.flatten.length := by
  unfold totalR
  rw [List.length_flatten]
theorem merge_perm : ∀ (n : Nat) (rs : List (List GE)), totalR rs ≤ n → (mergeR n rs).Perm rs.flatten
  | 0, rs, h => by
    have : rs.flatten = [] := List.eq_nil_of_length_eq_zero (by rw [← total_flat]; omega)
    rw [this]
    exact List.Perm.refl _
  | n + 1, rs, h => by
    rw [mergeR]
    cases hb : bestR rs with
    | none =>
      have h2 := (bestFrom_none rs 0 none hb).2
      have : rs.flatten = [] := List.flatten_eq_nil_iff.2 h2
      rw [this]
    | some p =>
      obtain ⟨i, x⟩ := p
      obtain ⟨t, ht, _⟩ := bestR_some hb
      have hp := flat_modify rs i x t ht
      refine ((merge_perm n _ ?_).cons x).trans hp.symm
      have := hp.length_eq
      rw [List.length_cons] at this
      rw [total_flat] at h ⊢
      omega
theorem merge_sorted : ∀ (n : Nat) (rs : List (List GE)), totalR rs ≤ n → (∀ l ∈ rs, SortedR l) → SortedR (mergeR n rs)
  | 0, _, _, _ => by simp [mergeR, SortedR]
  | n + 1, rs, h, hs => by
    rw [mergeR]
    cases hb : bestR rs with
    | none => simp [SortedR]
    | some p =>
      obtain ⟨i, x⟩ := p
      obtain ⟨t, ht, hmin⟩ := bestR_some hb
      have hp := flat_modify rs i x t ht
      have hlen := hp.length_eq
      rw [List.length_cons] at hlen
      have htot : totalR (rs.modify i List.tail) ≤ n := by rw [total_flat] at h ⊢; omega
      have hs2 : ∀ l ∈ rs.modify i List.tail, SortedR l := by
        intro l hl
        obtain ⟨k, hk⟩ := List.mem_iff_getElem?.1 hl
        rw [List.getElem?_modify] at hk
        cases hq : rs[k]? with
        | none => rw [hq] at hk; simp at hk
        | some m =>
          rw [hq] at hk
          have hm := hs m (List.mem_of_getElem? hq)
          simp only [Option.map_eq_map, Option.map_some, Option.some.injEq] at hk
          split at hk
          · rw [← hk]; unfold SortedR at hm ⊢; exact hm.tail
          · rw [← hk]; exact hm
      show SortedR (x :: mergeR n (rs.modify i List.tail))
      unfold SortedR
      rw [List.pairwise_cons]
      refine ⟨fun z hz => ?_, merge_sorted n _ htot hs2⟩
      have hz2 : z ∈ rs.flatten := hp.mem_iff.2 (List.mem_cons_of_mem _ ((merge_perm n _ htot).mem_iff.1 hz))
      obtain ⟨l, hl, hzl⟩ := List.mem_flatten.1 hz2
      cases l with
      | nil => simp at hzl
      | cons y s =>
        have h1 := hmin _ hl y s rfl
        rcases List.mem_cons.1 hzl with rfl | hzl
        · exact h1
        · have h2 := hs _ hl
          unfold SortedR at h2
          exact leR_trans h1 ((List.pairwise_cons.1 h2).1 z hzl)
/-- Merging lists that are sorted is sorting. -/
theorem merge_is {n : Nat} {rs : List (List GE)} {l : List GE} (h : totalR rs ≤ n) (hs : ∀ m ∈ rs, SortedR m) (hp : rs.flatten.Perm l) : mergeR n rs = sortR l :=
  sorted_is (merge_sorted n rs h hs) ((merge_perm n rs h).trans hp)
/-! ### batches -/
theorem chunks_flat (k : Nat) (hk : 0 < k) : ∀ (n : Nat) (l : List GE), l.length ≤ n → (chunks k n l).flatten = l
  | 0, l, h => by
    obtain rfl : l = [] := List.eq_nil_of_length_eq_zero (by omega)
    rfl
  | n + 1, l, h => by
    rw [chunks]
    split
    · rename_i e
      rw [e]; rfl
    · rename_i e
      have hl : 0 < l.length := List.length_pos_iff.2 e
      rw [List.flatten_cons, chunks_flat k hk n _ (by rw [List.length_drop]; omega), List.take_append_drop]
def batchesR (k : Nat) (l : List GE) : List (List GE) := (chunks k l.length l).map sortR
theorem flat_sort : ∀ (bs : List (List GE)), (bs.map sortR).flatten.Perm bs.flatten
  | [] => List.Perm.refl _
  | b :: r => by
    rw [List.map_cons, List.flatten_cons, List.flatten_cons]
    exact (sortR_perm b).append (flat_sort r)
/-- Sorting in batches and merging is sorting at once. -/
theorem sortAll_is {k n : Nat} (hk : 0 < k) {l : List GE} (hn : l.length ≤ n) : mergeR n (batchesR k l) = sortR l := by
  have hp : (batchesR k l).flatten.Perm l := by
    have := flat_sort (chunks k l.length l)
    rw [chunks_flat k hk _ l (Nat.le_refl _)] at this
    exact this
  refine merge_is (by rw [total_flat, hp.length_eq]; exact hn) (fun m hm => ?_) hp
  obtain ⟨b, _, rfl⟩ := List.mem_map.1 hm
  exact sortR_sorted b
end Go.Proofs.Ytpgnappddddlpaa
namespace Go.Proofs.Ytpgnappddddlpaa

inductive Tr where
  | leaf (es : List GE)
  | pair (l : Tr) (hl : Option GE) (r : Tr) (hr : Option GE)
/-- Is the right side's first record given out? -/
def goR : Option GE → Option GE → Bool
  | none, _ => true
  | some _, none => false
  | some x, some y => lessR y x
def Tr.next : Tr → Option GE × Tr
  | .leaf [] => (none, .leaf [])
  | .leaf (e :: r) => (some e, .leaf r)
  | .pair l hl r hr => if goR hl hr then (hr, .pair l hl r.next.2 r.next.1) else (hl, .pair l.next.2 l.next.1 r hr)
/-- A first record has been drawn out of what stood for the lists rs. -/
def Drawn (R : List (List GE) → Prop) (h : Option GE) (rs : List (List GE)) : Prop :=
  match bestR rs with
  | none => h = none ∧ R rs
  | some (i, x) => h = some x ∧ R (rs.modify i List.tail)
def Rep : Tr → List (List GE) → Prop
  | .leaf es, rs => rs = [es]
  | .pair l hl r hr, rs => ∃ a b, rs = a ++ b ∧ Drawn (Rep l) hl a ∧ Drawn (Rep r) hr b
theorem bestFrom_append : ∀ (u v : List (List GE)) (i : Nat) (b : Option (Nat × GE)), bestFrom i b (u ++ v) = bestFrom (i + u.length) (bestFrom i b u) v
  | [], v, i, b => by simp [bestFrom]
  | [] :: r, v, i, b => by
    rw [List.cons_append, bestFrom, bestFrom_append r v, bestFrom, List.length_cons]
    congr 1; omega
  | (x :: t) :: r, v, i, none => by
    rw [List.cons_append, bestFrom, bestFrom_append r v, bestFrom, List.length_cons]
    congr 1; omega
  | (x :: t) :: r, v, i, some (j, y) => by
    rw [List.cons_append, bestFrom, bestFrom_append r v, bestFrom, List.length_cons]
    congr 1; omega
def shiftB (d : Nat) (p : Nat × GE) : Nat × GE := (d + p.1, p.2)
theorem bestFrom_shift (d : Nat) : ∀ (v : List (List GE)) (i : Nat) (b : Option (Nat × GE)), bestFrom (d + i) (b.map (shiftB d)) v = (bestFrom i b v).map (shiftB d)
  | [], i, b => by simp [bestFrom]
  | [] :: r, i, b => by rw [bestFrom, bestFrom, ← bestFrom_shift d r (i + 1) b, Nat.add_assoc]
  | (x :: t) :: r, i, none => by
    have := bestFrom_shift d r (i + 1) (some (i, x))
    rw [bestFrom, ← this]
    rfl
  | (x :: t) :: r, i, some (j, y) => by
    have := bestFrom_shift d r (i + 1) (if lessR x y then some (i, x) else some (j, y))
    rw [bestFrom, ← this, Option.map_some, shiftB, bestFrom]
    congr 1
    split <;> rfl
theorem bestFrom_from : ∀ (v : List (List GE)) (k i : Nat) (x : GE), bestFrom k (some (i, x)) v = match bestFrom k none v with
    | none => some (i, x)
    | some (j, y) => if lessR y x then some (j, y) else some (i, x)
  | [], k, i, x => by simp [bestFrom]
  | [] :: r, k, i, x => by rw [bestFrom, bestFrom_from r]; rfl
  | (z :: t) :: r, k, i, x => by
    rw [bestFrom, bestFrom, bestFrom_from r (k + 1) k z]
    by_cases h1 : lessR z x = true
    · rw [if_pos h1, bestFrom_from r (k + 1) k z]
      cases bestFrom (k + 1) none r with
      | none => simp [h1]
      | some p =>
        obtain ⟨j, y⟩ := p
        simp only
        by_cases h2 : lessR y z = true
        · have h3 : lessR y x = true := by rw [lessR_iff] at *; omega
          rw [if_pos h2]; simp [h3]
        · rw [if_neg h2]; simp [h1]
    · rw [if_neg h1, bestFrom_from r (k + 1) i x]
      cases bestFrom (k + 1) none r with
      | none => simp [h1]
      | some p =>
        obtain ⟨j, y⟩ := p
        simp only
        by_cases h2 : lessR y z = true
        · rw [if_pos h2]
        · have h3 : ¬ lessR y x = true := by
            have a1 : lessR z x = false := by simpa using h1
            have a2 : lessR y z = false := by simpa using h2
            rw [lessR_no] at a1 a2
            rw [lessR_iff]
            omega
          rw [if_neg h2]; simp [h1, h3]
theorem bestR_append (a b : List (List GE)) : bestR (a ++ b) = match bestR a, bestR b with
    | none, q => q.map (shiftB a.length)
    | some p, none => some p
    | some (i, x), some (j, y) => if lessR y x then some (a.length + j, y) else some (i, x) := by
  unfold bestR
  rw [bestFrom_append, Nat.zero_add]
  have hs := bestFrom_shift a.length b 0 none
  rw [Nat.add_zero, Option.map_none] at hs
  cases ha : bestFrom 0 none a with
  | none => rw [hs]
  | some p =>
    obtain ⟨i, x⟩ := p
    rw [bestFrom_from, hs]
    cases hb : bestFrom 0 none b with
    | none => rfl
    | some q =>
      obtain ⟨j, y⟩ := q
      rfl
theorem modify_left {α : Type} (f : α → α) : ∀ (a b : List α) (i : Nat), i < a.length → (a ++ b).modify i f = a.modify i f ++ b
  | [], _, _, h => by simp at h
  | x :: r, b, 0, _ => by simp
  | x :: r, b, i + 1, h => by
    rw [List.cons_append, List.modify_succ_cons, modify_left f r b i (by simpa using h), List.modify_succ_cons, List.cons_append]
theorem modify_right {α : Type} (f : α → α) : ∀ (a b : List α) (j : Nat), (a ++ b).modify (a.length + j) f = a ++ b.modify j f
  | [], b, j => by simp
  | x :: r, b, j => by
    rw [List.cons_append, List.length_cons, show r.length + 1 + j = (r.length + j) + 1 by omega, List.modify_succ_cons, modify_right f r b j, List.cons_append]
theorem bestR_lt {rs : List (List GE)} {i : Nat} {x : GE} (h : bestR rs = some (i, x)) : i < rs.length := by
  obtain ⟨t, ht, _⟩ := bestR_some h
  exact (List.getElem?_eq_some_iff.1 ht).1
theorem drawn_of_none {R : List (List GE) → Prop} {h : Option GE} {rs : List (List GE)} (hb : bestR rs = none) (h1 : h = none) (h2 : R rs) : Drawn R h rs := by
  unfold Drawn
  rw [hb]
  exact ⟨h1, h2⟩
theorem drawn_of_some {R : List (List GE) → Prop} {h : Option GE} {rs : List (List GE)} {i : Nat} {x : GE} (hb : bestR rs = some (i, x)) (h1 : h = some x) (h2 : R (rs.modify i List.tail)) : Drawn R h rs := by
  unfold Drawn
  rw [hb]
  exact ⟨h1, h2⟩
theorem next_drawn : ∀ (t : Tr) (rs : List (List GE)), Rep t rs → Drawn (Rep t.next.2) t.next.1 rs
  | .leaf [], rs, h => by
    simp only [Rep] at h
    subst h
    exact ⟨rfl, rfl⟩
  | .leaf (e :: r), rs, h => by
    simp only [Rep] at h
    subst h
    exact ⟨rfl, rfl⟩
  | .pair l hl r hr, rs, h => by
    obtain ⟨a, b, rfl, ha, hb⟩ := h
    have ha0 := ha
    have hb0 := hb
    have hap := bestR_append a b
    unfold Drawn at ha hb
    cases ea : bestR a with
    | none =>
      rw [ea] at ha hap
      obtain ⟨rfl, ha⟩ := ha
      have hn : (Tr.pair l none r hr).next = (hr, .pair l none r.next.2 r.next.1) := by rw [Tr.next, if_pos (by rfl)]
      rw [hn]
      cases eb : bestR b with
      | none =>
        rw [eb] at hb hap
        exact drawn_of_none hap hb.1 ⟨a, b, rfl, ha0, next_drawn r b hb.2⟩
      | some q =>
        obtain ⟨j, y⟩ := q
        rw [eb] at hb hap
        exact drawn_of_some (i := a.length + j) (x := y) hap hb.1 ⟨a, b.modify j List.tail, modify_right _ _ _ _, ha0, next_drawn r _ hb.2⟩
    | some p =>
      obtain ⟨i, x⟩ := p
      rw [ea] at ha hap
      obtain ⟨rfl, ha⟩ := ha
      have hi := bestR_lt ea
      cases eb : bestR b with
      | none =>
        rw [eb] at hb hap
        obtain ⟨rfl, hb⟩ := hb
        have hn : (Tr.pair l (some x) r none).next = (some x, .pair l.next.2 l.next.1 r none) := by rw [Tr.next, if_neg (by simp [goR])]
        rw [hn]
        exact drawn_of_some hap rfl ⟨a.modify i List.tail, b, modify_left _ _ _ _ hi, next_drawn l _ ha, hb0⟩
      | some q =>
        obtain ⟨j, y⟩ := q
        rw [eb] at hb hap
        obtain ⟨rfl, hb⟩ := hb
        cases hlt : lessR y x with
        | true =>
          have hn : (Tr.pair l (some x) r (some y)).next = (some y, .pair l (some x) r.next.2 r.next.1) := by rw [Tr.next, if_pos (by simp [goR, hlt])]
          rw [hn]
          simp only [hlt, if_true] at hap
          exact drawn_of_some (i := a.length + j) hap rfl ⟨a, b.modify j List.tail, modify_right _ _ _ _, ha0, next_drawn r _ hb⟩
        | false =>
          have hn : (Tr.pair l (some x) r (some y)).next = (some x, .pair l.next.2 l.next.1 r (some y)) := by rw [Tr.next, if_neg (by simp [goR, hlt])]
          rw [hn]
          simp only [hlt, Bool.false_eq_true, if_false] at hap
          exact drawn_of_some hap rfl ⟨a.modify i List.tail, b, modify_left _ _ _ _ hi, next_drawn l _ ha, hb0⟩
/-- Two trees under a new pair. -/
theorem pair_rep {l r : Tr} {a b : List (List GE)} (hl : Rep l a) (hr : Rep r b) : Rep (.pair l.next.2 l.next.1 r.next.2 r.next.1) (a ++ b) :=
  ⟨a, b, rfl, next_drawn l a hl, next_drawn r b hr⟩

/-! ### merging to the end -/
def mergeAll (rs : List (List GE)) : List GE := mergeR (totalR rs) rs
theorem total_step {rs : List (List GE)} {i : Nat} {x : GE} (h : bestR rs = some (i, x)) : totalR rs = totalR (rs.modify i List.tail) + 1 := by
  obtain ⟨t, ht, _⟩ := bestR_some h
  have hp := (flat_modify rs i x t ht).length_eq
  rw [total_flat, total_flat, hp, List.length_cons]
theorem merge_none {rs : List (List GE)} (h : bestR rs = none) : mergeAll rs = [] := by
  unfold mergeAll
  cases hn : totalR rs with
  | zero => rfl
  | succ n => rw [mergeR, h]
theorem merge_step {rs : List (List GE)} {i : Nat} {x : GE} (h : bestR rs = some (i, x)) : mergeAll rs = x :: mergeAll (rs.modify i List.tail) := by
  unfold mergeAll
  rw [total_step h, mergeR, h]
theorem mergeAll_len (rs : List (List GE)) : (mergeAll rs).length = totalR rs := by
  rw [total_flat]
  exact (merge_perm _ rs (Nat.le_refl _)).length_eq
theorem mergeAll_sort {k : Nat} (hk : 0 < k) (l : List GE) : mergeAll (batchesR k l) = sortR l := by
  have h := sortAll_is (k := k) (n := totalR (batchesR k l)) hk (l := l) (by
    rw [total_flat]
    have := flat_sort (chunks k l.length l)
    rw [chunks_flat k hk _ l (Nat.le_refl _)] at this
    exact Nat.le_of_eq this.length_eq.symm)
  exact h
end Go.Proofs.Ytpgnappddddlpaa
namespace Go.Proofs.Ytpgnappddddlpaa

theorem chunks_fuel (k : Nat) (hk : 0 < k) : ∀ (n m : Nat) (l : List GE), l.length ≤ n → l.length ≤ m → chunks k n l = chunks k m l
  | 0, 0, _, _, _ => rfl
  | 0, m + 1, l, h, _ => by
    obtain rfl : l = [] := List.eq_nil_of_length_eq_zero (by omega)
    simp [chunks]
  | n + 1, 0, l, _, h => by
    obtain rfl : l = [] := List.eq_nil_of_length_eq_zero (by omega)
    simp [chunks]
  | n + 1, m + 1, l, h1, h2 => by
    rw [chunks, chunks]
    split
    · rfl
    · rename_i hl
      have : 0 < l.length := List.length_pos_iff.2 hl
      rw [chunks_fuel k hk n m (l.drop k) (by rw [List.length_drop]; omega) (by rw [List.length_drop]; omega)]
theorem batchesR_nil (k : Nat) : batchesR k [] = [] := by simp [batchesR, chunks]
theorem batchesR_step {k : Nat} (hk : 0 < k) {l : List GE} (h : 0 < l.length) : batchesR k l = sortR (l.take k) :: batchesR k (l.drop k) := by
  obtain ⟨n, hn⟩ : ∃ n, l.length = n + 1 := ⟨l.length - 1, by omega⟩
  unfold batchesR
  rw [hn, chunks, if_neg (by intro e; rw [e] at h; simp at h), List.map_cons, chunks_fuel k hk n (l.drop k).length (l.drop k) (by rw [List.length_drop]; omega) (Nat.le_refl _)]
def batchesZ (b : Int) (l : List GE) : List (List GE) := if b < 1 then [] else batchesR b.toNat l
theorem batchesZ_no {b : Int} {l : List GE} (h : b < 1) : batchesZ b l = [] := if_pos h
theorem batchesZ_yes {b : Int} {l : List GE} (h : 1 ≤ b) : batchesZ b l = batchesR b.toNat l := if_neg (by omega)
theorem batches_more {b p q : Nat} (hb : 0 < b) {l : List GE} (hp : p < l.length) (hq : q = b ∨ (l.length - p ≤ b ∧ q = l.length - p)) : batchesR b (l.drop p) = sortR ((l.drop p).take q) :: batchesR b (l.drop (p + q)) := by
  rw [batchesR_step hb (by rw [List.length_drop]; omega), List.drop_drop]
  rcases hq with rfl | ⟨h1, rfl⟩
  · rfl
  · rw [List.take_of_length_le (by rw [List.length_drop]; omega), List.take_of_length_le (by rw [List.length_drop]; omega), List.drop_eq_nil_of_le (i := p + b) (by omega), List.drop_eq_nil_of_le (i := p + (l.length - p)) (by omega)]
theorem total_batches {b : Nat} (hb : 0 < b) (l : List GE) : totalR (batchesR b l) = l.length := by
  rw [total_flat]
  have := flat_sort (chunks b l.length l)
  rw [chunks_flat b hb _ l (Nat.le_refl _)] at this
  exact this.length_eq
theorem count_batches {b : Nat} (hb : 0 < b) : ∀ (n : Nat) (l : List GE), l.length ≤ n → (batchesR b l).length ≤ n
  | 0, l, h => by
    obtain rfl : l = [] := List.eq_nil_of_length_eq_zero (by omega)
    simp [batchesR_nil]
  | n + 1, l, h => by
    rcases Nat.eq_zero_or_pos l.length with h0 | h0
    · obtain rfl : l = [] := List.eq_nil_of_length_eq_zero h0
      simp [batchesR_nil]
    · rw [batchesR_step hb h0, List.length_cons]
      have := count_batches hb n (l.drop b) (by rw [List.length_drop]; omega)
      omega
theorem countZ (b : Int) (l : List GE) : (batchesZ b l).length ≤ l.length ∧ totalR (batchesZ b l) ≤ l.length := by
  by_cases h : b < 1
  · rw [batchesZ_no h]; simp [totalR]
  · rw [batchesZ_yes (by omega)]
    exact ⟨count_batches (by omega) _ l (Nat.le_refl _), by rw [total_batches (by omega)]; exact Nat.le_refl _⟩
end Go.Proofs.Ytpgnappddddlpaa
