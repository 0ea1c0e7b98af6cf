/- Words for slices of shard edges in memory (plain lemmas over the model; no condition): 'SlK': a slice that reads as a list of records of five numbers; such a list laid record by record; marks in it. // Shard edges and shards: what new ones are (no condition). // Shard edges: the contracts of the laws' helpers that leave marks and that look for them. Condition: at most 2^21 edges. // The contracts of the law's two helpers that write marks into a slice of bytes and look for them: 'markByteS' writes 1, 2, 3 .. (modulo 256) into a row of the call's own, and nothing else; 'heldByteS' finds them. Condition: at most 2^21 bytes. // Marks in lists of records of three numbers and of numbers, as data (no condition). -/
import Derived.Test.YtlhcobkncceodaaGreatDoorCK
import Derived.Test.YtlhcobkncceodaaGreatDoorCJ
namespace Go.Proofs.YtlhcobkncceodaaGreatDoor
open Go.RowKit

structure KE where
  f : Int
  t : Int
  w : Int
  i : Int
  v : Int
def KE.cells (e : KE) : List Value := [.int .i64 e.f, .int .i64 e.t, .int .i64 e.w, .int .i64 e.i, .int .i64 e.v]
theorem KE.cells_len (e : KE) : e.cells.length = 5 := rfl
theorem KE.cells_one (e : KE) : ∀ u ∈ e.cells, u.oneCell' = true := by
  intro u hu
  simp [KE.cells] at hu
  rcases hu with rfl | rfl | rfl | rfl | rfl <;> rfl
theorem ke_one (es : List KE) : ∀ u ∈ es.flatMap KE.cells, u.oneCell' = true := fun u hu => by
  obtain ⟨e, _, he⟩ := List.mem_flatMap.1 hu
  exact e.cells_one u he

/-- A slice of shard edges in memory. -/
structure SlK (w : World) (A : Option Addr) (n : Nat) (es : List KE) : Prop where
  len : es.length = n
  row : Row w 5 A n (es.flatMap KE.cells)
section
variable {w w' : World} {n c lo e : Nat} {A : Option Addr} {es : List KE}
theorem SlK.keep (h : SlK w A n es) (hs : w.heap.size ≤ w'.heap.size) (hk : ∀ i, i < w.heap.size → w'.heap[i]? = w.heap[i]?) : SlK w' A n es := ⟨h.len, h.row.keep hs hk⟩
theorem SlK.below (h : SlK w A n es) (hb : Below w.heap.size w w') : SlK w' A n es := h.keep hb.size hb.block
theorem SlK.drewN (h : SlK w A n es) (m : Nat) : SlK (w.drewN m) A n es := ⟨h.len, h.row.drewN m⟩
theorem SlK.nil : SlK w A 0 [] := ⟨rfl, Row.nil⟩
/-- The edge at place j, its five cells. -/
theorem SlK.at_ {j : Nat} (h : SlK w A n es) (hj : j < n) : ∃ (b off : Nat) (e : KE), A = some ⟨b, off, none⟩ ∧ b < w.heap.size ∧ Hid (es[j]? = some e) ∧
    w.cell? ⟨b, off + j * 5, none⟩ = some (.int .i64 e.f) ∧ w.cell? ⟨b, off + j * 5 + 1, none⟩ = some (.int .i64 e.t) ∧ w.cell? ⟨b, off + j * 5 + 2, none⟩ = some (.int .i64 e.w) ∧
    w.cell? ⟨b, off + j * 5 + 3, none⟩ = some (.int .i64 e.i) ∧ w.cell? ⟨b, off + j * 5 + 4, none⟩ = some (.int .i64 e.v) := by
  obtain ⟨b, off, rfl, hb, hc⟩ := h.row.lies (by omega)
  have hl : j < es.length := by have := h.len; omega
  have he : es[j]? = some es[j] := List.getElem?_eq_getElem hl
  refine ⟨b, off, es[j], rfl, hb, he, ?_, ?_, ?_, ?_, ?_⟩
  · exact hc (j * 5) _ (flat_get KE.cells 5 KE.cells_len es j 0 _ he (by omega))
  · exact hc (j * 5 + 1) _ (flat_get KE.cells 5 KE.cells_len es j 1 _ he (by omega))
  · exact hc (j * 5 + 2) _ (flat_get KE.cells 5 KE.cells_len es j 2 _ he (by omega))
  · exact hc (j * 5 + 3) _ (flat_get KE.cells 5 KE.cells_len es j 3 _ he (by omega))
  · exact hc (j * 5 + 4) _ (flat_get KE.cells 5 KE.cells_len es j 4 _ he (by omega))
theorem SlK.of_own (h : w.ownsRow lo e 5 (.slice A n c) n (es.flatMap KE.cells)) (hl : es.length = n) : SlK w A n es := ⟨hl, Row.of_own h⟩
end
/-- Five cells of one edge stored. -/
def lay5 (w : World) (g q : Nat) (e : KE) : World := ((((w.setCell ⟨g, q, none⟩ (.int .i64 e.f)).setCell ⟨g, q + 1, none⟩ (.int .i64 e.t)).setCell ⟨g, q + 2, none⟩ (.int .i64 e.w)).setCell ⟨g, q + 3, none⟩ (.int .i64 e.i)).setCell ⟨g, q + 4, none⟩ (.int .i64 e.v)
theorem k_lay {w : World} {lo ty g c n k : Nat} {made rest : List KE} {x e : KE} (h : w.ownsRow lo ty 5 (.slice (some ⟨g, 0, none⟩) n c) n ((made ++ x :: rest).flatMap KE.cells)) (hm : made.length = k) :
    (lay5 w g (k * 5) e).ownsRow lo ty 5 (.slice (some ⟨g, 0, none⟩) n c) n ((made ++ e :: rest).flatMap KE.cells) ∧ w.grownBy (lay5 w g (k * 5) e) (some g) := by
  have h1 := h.stored (k * 5) (.int .i64 e.f)
  have h2 := h1.1.stored (k * 5 + 1) (.int .i64 e.t)
  have h3 := h2.1.stored (k * 5 + 2) (.int .i64 e.w)
  have h4 := h3.1.stored (k * 5 + 3) (.int .i64 e.i)
  have h5 := h4.1.stored (k * 5 + 4) (.int .i64 e.v)
  have e1 := flat_set KE.cells 5 KE.cells_len (made ++ x :: rest) k 0 x ⟨e.f, x.t, x.w, x.i, x.v⟩ (.int .i64 e.f) (g_get _ _ _ _ hm) (by omega) rfl
  rw [Nat.add_zero, g_set _ _ _ _ _ hm] at e1
  have e2 := flat_set KE.cells 5 KE.cells_len (made ++ ⟨e.f, x.t, x.w, x.i, x.v⟩ :: rest) k 1 ⟨e.f, x.t, x.w, x.i, x.v⟩ ⟨e.f, e.t, x.w, x.i, x.v⟩ (.int .i64 e.t) (g_get _ _ _ _ hm) (by omega) rfl
  rw [g_set _ _ _ _ _ hm] at e2
  have e3 := flat_set KE.cells 5 KE.cells_len (made ++ ⟨e.f, e.t, x.w, x.i, x.v⟩ :: rest) k 2 ⟨e.f, e.t, x.w, x.i, x.v⟩ ⟨e.f, e.t, e.w, x.i, x.v⟩ (.int .i64 e.w) (g_get _ _ _ _ hm) (by omega) rfl
  rw [g_set _ _ _ _ _ hm] at e3
  have e4 := flat_set KE.cells 5 KE.cells_len (made ++ ⟨e.f, e.t, e.w, x.i, x.v⟩ :: rest) k 3 ⟨e.f, e.t, e.w, x.i, x.v⟩ ⟨e.f, e.t, e.w, e.i, x.v⟩ (.int .i64 e.i) (g_get _ _ _ _ hm) (by omega) rfl
  rw [g_set _ _ _ _ _ hm] at e4
  have e5 := flat_set KE.cells 5 KE.cells_len (made ++ ⟨e.f, e.t, e.w, e.i, x.v⟩ :: rest) k 4 ⟨e.f, e.t, e.w, e.i, x.v⟩ e (.int .i64 e.v) (g_get _ _ _ _ hm) (by omega) rfl
  rw [g_set _ _ _ _ _ hm] at e5
  rw [e1, e2, e3, e4, e5] at h5
  exact ⟨h5.1, (((h1.2.trans h2.2).trans h3.2).trans h4.2).trans h5.2⟩
def zero5 : KE := ⟨0, 0, 0, 0, 0⟩
theorem rep5_succ (n k : Nat) (h : k < n) : List.replicate (n - k) zero5 = zero5 :: List.replicate (n - (k + 1)) zero5 := by
  rw [show n - k = (n - (k + 1)) + 1 by omega, List.replicate_succ]

/-! ### marks -/
def mark5 (k : Nat) : List KE → List KE
  | [] => []
  | _ :: r => ⟨k, k + 1, k + 2, k + 3, k + 4⟩ :: mark5 (k + 5) r
theorem mark5_len : ∀ (es : List KE) (k : Nat), (mark5 k es).length = es.length
  | [], _ => rfl
  | _ :: r, k => by rw [mark5, List.length_cons, mark5_len r, List.length_cons]
theorem mark5_snoc : ∀ (es : List KE) (k : Nat) (e : KE), mark5 k (es ++ [e]) = mark5 k es ++ [⟨(k + 5 * es.length : Nat), (k + 5 * es.length : Nat) + 1, (k + 5 * es.length : Nat) + 2, (k + 5 * es.length : Nat) + 3, (k + 5 * es.length : Nat) + 4⟩]
  | [], k, _ => by simp [mark5]
  | _ :: r, k, e => by
    rw [List.cons_append, mark5, mark5_snoc r (k + 5) e, mark5, List.cons_append, List.length_cons, show k + 5 + 5 * r.length = k + 5 * (r.length + 1) by omega]
theorem mark5_get : ∀ (es : List KE) (k j : Nat), j < es.length → (mark5 k es)[j]? = some ⟨((k + 5 * j : Nat) : Int), ((k + 5 * j : Nat) : Int) + 1, ((k + 5 * j : Nat) : Int) + 2, ((k + 5 * j : Nat) : Int) + 3, ((k + 5 * j : Nat) : Int) + 4⟩
  | [], _, j, h => by simp at h
  | _ :: r, k, 0, _ => by simp [mark5]
  | _ :: r, k, j + 1, h => by
    rw [mark5, List.getElem?_cons_succ, mark5_get r (k + 5) j (by simpa using h), show k + 5 + 5 * j = k + 5 * (j + 1) by omega]
end Go.Proofs.YtlhcobkncceodaaGreatDoor
namespace Go.Proofs.YtlhcobkncceodaaGreatDoor
open Go.RowKit

/-- A block that holds a shard. -/
structure HBox (w : World) (b : Nat) (lo hi : Int) (A : Option Addr) (n c : Nat) : Prop where
  lt : b < w.heap.size
  c0 : w.cell? ⟨b, 0, none⟩ = some (.int .i64 lo)
  c1 : w.cell? ⟨b, 1, none⟩ = some (.int .i64 hi)
  c2 : w.cell? ⟨b, 2, none⟩ = some (.slice A n c)
section
variable {w w' : World} {b n c : Nat} {lo hi : Int} {A : Option Addr}
theorem HBox.keep (h : HBox w b lo hi A n c) (hs : w.heap.size ≤ w'.heap.size) (hk : w'.heap[b]? = w.heap[b]?) : HBox w' b lo hi A n c :=
  ⟨Nat.lt_of_lt_of_le h.lt hs, (World.cell?_of_block (a := ⟨b, 0, none⟩) hk).trans h.c0, (World.cell?_of_block (a := ⟨b, 1, none⟩) hk).trans h.c1, (World.cell?_of_block (a := ⟨b, 2, none⟩) hk).trans h.c2⟩
theorem HBox.below (h : HBox w b lo hi A n c) (hb : Below w.heap.size w w') : HBox w' b lo hi A n c := h.keep hb.size (hb.block b h.lt)
theorem HBox.new (w : World) (lo hi : Int) (A : Option Addr) (n c : Nat) (t : TypeId) : HBox (w.alloc (.cells #[.int .i64 lo, .int .i64 hi, .slice A n c] t)) w.heap.size lo hi A n c := ⟨by simp, by simp, by simp, by simp⟩
theorem HBox.alloc (h : HBox w b lo hi A n c) (o : Obj) : HBox (w.alloc o) b lo hi A n c := h.below (below_a1 w o)
theorem HBox.drew (h : HBox w b lo hi A n c) : HBox w.drew b lo hi A n c := ⟨h.lt, h.c0, h.c1, h.c2⟩
end
end Go.Proofs.YtlhcobkncceodaaGreatDoor
namespace Go.Proofs.YtlhcobkncceodaaGreatDoor
open Go.RowKit

end Go.Proofs.YtlhcobkncceodaaGreatDoor
namespace Go.Proofs.YtlhcobkncceodaaGreatDoor
open Go.RowKit

/-- The marks. -/
def marks (n : Nat) : List Nat := (List.range n).map fun i => (i + 1) % 256
theorem marks_length (n : Nat) : (marks n).length = n := by simp [marks]
theorem marks_small (n : Nat) : ∀ x ∈ marks n, x < 256 := by
  intro x hx
  simp only [marks, List.mem_map] at hx
  obtain ⟨i, _, rfl⟩ := hx
  omega
theorem marks_get (n k : Nat) (h : k < n) : (marks n)[k]? = some ((k + 1) % 256) := by simp [marks, h]
def markedTo (xs : List Nat) (k : Nat) : List Nat := marks k ++ xs.drop k
theorem markedTo_zero (xs : List Nat) : markedTo xs 0 = xs := by simp [markedTo, marks]
theorem markedTo_full (xs : List Nat) : markedTo xs xs.length = marks xs.length := by simp [markedTo]
theorem markedTo_step (xs : List Nat) (k : Nat) (h : k < xs.length) : (vb (markedTo xs k)).set k (.int .u8 (((k + 1) % 256 : Nat) : Int)) = vb (markedTo xs (k + 1)) := by
  have : (markedTo xs k).set k ((k + 1) % 256) = markedTo xs (k + 1) := by
    unfold markedTo
    rw [List.set_append_right _ _ (by simp [marks_length]), marks_length, Nat.sub_self, List.drop_eq_getElem_cons h, List.set_cons_zero]
    rw [marks, marks, List.range_succ, List.map_append, List.append_assoc]
    rfl
  rw [← this]
  simp [vb, List.map_set]

def Marked (w : World) (base n : Nat) (A : Option Addr) (c : Nat) (e : Ending) (w' : World) : Prop :=
  e = .returned (.int .i64 (n + 1 : Int)) ∧ w'.ownsRow base 5 1 (.slice A n c) n (vb (marks n)) ∧ w.grownBy w' (Value.slice A n c).ownBlock

set_option maxHeartbeats 400000 in
theorem mark_any (A : Option Addr) (n c base : Nat) (xs : List Nat) (w : World) (ho : w.ownsRow base 5 1 (.slice A n c) n (vb xs)) (hn : n ≤ 2097152) :
    Calls Tryz.prog 75 #[.slice A n c, .int .i64 1] w (Marked w base n A c) := by
  have hl : xs.length = n := by have := ho.1; rw [vb_length] at this; omega
  rcases Nat.eq_zero_or_pos n with h0 | h0
  · subst h0
    obtain rfl : xs = [] := List.eq_nil_of_length_eq_zero hl
    have HO := Lib.hid ho
    clear ho hl
    go_enter Tryz.func75, Tryz.ntmps75
    go_wp2
    refine wp_loop_rounds 1 ?_
    rw [rounds_succ]
    go_wp2
    go_ret
    exact ⟨rfl, HO.out, World.grownBy.refl _ _⟩
  · obtain ⟨g, cap, hv, hbase, hlt⟩ := ho.form h0
    obtain ⟨rfl, -, rfl⟩ : A = some ⟨g, 0, none⟩ ∧ n = n ∧ c = cap := by injection hv with e1 e2 e3; exact ⟨e1, e2, e3⟩
    clear hv
    have HL := Lib.hid hl
    have ho0 : w.ownsRow base 5 1 (.slice (some ⟨g, 0, none⟩) n c) n (vb (markedTo xs 0)) := by rw [markedTo_zero]; exact ho
    clear hl ho
    go_enter Tryz.func75, Tryz.ntmps75
    go_wp2
    go_loopw [1, 5] (fun t i wr => ∃ k : Nat, k ≤ n ∧ i = .int .i64 k ∧ t = .int .i64 (k + 1 : Int) ∧ wr.ownsRow base 5 1 (.slice (some ⟨g, 0, none⟩) n c) n (vb (markedTo xs k)) ∧ w.grownBy wr (some g)) (fun _ i _ => n - (intOf i).toNat)
    case atStart => exact ⟨0, Nat.zero_le _, rfl, rfl, ho0, World.grownBy.refl _ _⟩
    case round =>
      obtain ⟨k, hk, rfl, rfl, hown, hgr⟩ := hrel
      by_cases hlt2 : k < n
      · have hl2 : k < (vb (markedTo xs k)).length := by rw [hown.1]; omega
        have hcell2 : wr.cell? ⟨g, k, none⟩ = some (vb (markedTo xs k))[k] := by rw [hown.cellAt k (by omega), List.getElem?_eq_getElem hl2]
        have hfr := hown.frozenAt k
        have hst := hown.stored k (.int .u8 (((k + 1) % 256 : Nat) : Int))
        rw [markedTo_step xs k (by rw [HL.out]; exact hlt2)] at hst
        have hst1 := Lib.hid hst.1
        have hg2 := grownBy_trans hgr hst.2
        generalize (vb (markedTo xs k))[k] = old at hcell2
        clear hst hown hl2
        go_wp2
        go_roundw
        case rel => exact ⟨k + 1, by omega, by go_num, by go_num, hst1.out, hg2⟩
        case measure => simp [intOf]; omega
      · obtain rfl : k = n := by omega
        go_wp2
        go_ret
        have e := HL.out
        subst e
        rw [markedTo_full] at hown
        exact ⟨rfl, hown, hgr⟩

set_option maxHeartbeats 400000 in
theorem held_any (A : Option Addr) (n c : Nat) (w : World) (hr : Rd w A n (marks n)) (hn : n ≤ 2097152) :
    Calls Tryz.prog 76 #[.slice A n c, .int .i64 1] w fun e w' => e = .returned (.int .i64 (n + 1 : Int)) ∧ w = w' := by
  go_enter Tryz.func76, Tryz.ntmps76
  go_wp2
  go_loop [1, 5] (fun t i => ∃ k : Nat, k ≤ n ∧ i = .int .i64 k ∧ t = .int .i64 (k + 1 : Int)) (fun _ i => n - (intOf i).toNat)
  case atStart => exact ⟨0, Nat.zero_le _, rfl, rfl⟩
  case round =>
    obtain ⟨k, hk, rfl, rfl⟩ := hrel
    by_cases hlt : k < n
    · obtain ⟨b, off, x, rfl, hbw, hx, hxs, hc⟩ := hr.at_ hlt
      obtain rfl : (k + 1) % 256 = x := by have := (marks_get n k hlt).symm.trans hxs.out; injection this
      go_wp2
      go_round
      case rel => exact ⟨k + 1, by omega, by go_num, by go_num⟩
      case measure => simp [intOf]; omega
    · obtain rfl : k = n := by omega
      go_wp2
      go_ret
      exact ⟨rfl, rfl⟩
end Go.Proofs.YtlhcobkncceodaaGreatDoor
namespace Go.Proofs.YtlhcobkncceodaaGreatDoor
open Go.RowKit

/-! ### marks -/
/-- The edges from k on bear the marks. -/
def markG (k : Nat) : List GE → List GE
  | [] => []
  | _ :: r => ⟨k, k + 1, k + 2⟩ :: markG (k + 3) r
def ints (k n : Nat) : List Int := (List.range n).map fun i => ((k + i : Nat) : Int)
theorem ints_len (k n : Nat) : (ints k n).length = n := by simp [ints]
theorem ints_get (k n i : Nat) (h : i < n) : (ints k n)[i]? = some ((k + i : Nat) : Int) := by simp [ints, h]
/-- The first i of a list bear marks. -/
def markI (k : Nat) (xs : List Int) (i : Nat) : List Int := ints k i ++ xs.drop i
theorem markI_zero (k : Nat) (xs : List Int) : markI k xs 0 = xs := by simp [markI, ints]
theorem markI_full (k : Nat) (xs : List Int) : markI k xs xs.length = ints k xs.length := by simp [markI]
theorem markI_step (k : Nat) (xs : List Int) (i : Nat) (h : i < xs.length) : (vi (markI k xs i)).set i (.int .i64 ((k + i : Nat) : Int)) = vi (markI k xs (i + 1)) := by
  have hd : xs.drop i = xs[i] :: xs.drop (i + 1) := List.drop_eq_getElem_cons h
  unfold markI
  rw [hd, vi_append, vi_append]
  rw [List.set_append_right _ _ (by rw [vi_len, ints_len]; exact Nat.le_refl _), vi_len, ints_len, Nat.sub_self]
  have : ints k (i + 1) = ints k i ++ [((k + i : Nat) : Int)] := by simp [ints, List.range_succ]
  rw [this, vi_append, List.append_assoc]
  rfl
theorem markI_len (k : Nat) (xs : List Int) (i : Nat) (h : i ≤ xs.length) : (markI k xs i).length = xs.length := by
  simp [markI, ints_len]; omega
def MarkedI (w : World) (lo k : Nat) (A : Option Addr) (n c : Nat) (e : Ending) (w' : World) : Prop :=
  e = .returned (.int .i64 ((k + n : Nat) : Int)) ∧ w'.ownsRow lo 3 1 (.slice A n c) n (vi (ints k n)) ∧ w.grownBy w' (Value.slice A n c).ownBlock

/-! ### marks in edges -/
theorem markG_len : ∀ (es : List GE) (k : Nat), (markG k es).length = es.length
  | [], _ => rfl
  | _ :: r, k => by rw [markG, List.length_cons, markG_len r, List.length_cons]
theorem markG_snoc : ∀ (es : List GE) (k : Nat) (e : GE), markG k (es ++ [e]) = markG k es ++ [⟨(k + 3 * es.length : Nat), (k + 3 * es.length : Nat) + 1, (k + 3 * es.length : Nat) + 2⟩]
  | [], k, _ => by simp [markG]
  | _ :: r, k, e => by
    rw [List.cons_append, markG, markG_snoc r (k + 3) e, markG, List.cons_append, List.length_cons, show k + 3 + 3 * r.length = k + 3 * (r.length + 1) by omega]
theorem markG_get : ∀ (es : List GE) (k j : Nat), j < es.length → (markG k es)[j]? = some ⟨((k + 3 * j : Nat) : Int), ((k + 3 * j : Nat) : Int) + 1, ((k + 3 * j : Nat) : Int) + 2⟩
  | [], _, j, h => by simp at h
  | _ :: r, k, 0, _ => by simp [markG]
  | _ :: r, k, j + 1, h => by
    rw [markG, List.getElem?_cons_succ, markG_get r (k + 3) j (by simpa using h), show k + 3 + 3 * j = k + 3 * (j + 1) by omega]

end Go.Proofs.YtlhcobkncceodaaGreatDoor
