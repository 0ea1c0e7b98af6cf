/- Words for the encoding of a shard: a block of one edge, the bytes so far (plain lemmas; no condition). -/
import Derived.Test.YtmbabbapcjphgaaPackRes
import Derived.Test.YtmbabbapcjphgaaBlkB
namespace Go.Proofs.Ytmbabbapcjphgaa
open Go.RowKit

theorem ke_blk {w : World} {b : Nat} {e : KE} {t : TypeId} (h : Blk w b #[.int .i64 e.f, .int .i64 e.t, .int .i64 e.w, .int .i64 e.i, .int .i64 e.v] t) :
    w.cell? ⟨b, 0, none⟩ = some (.int .i64 e.f) ∧ w.cell? ⟨b, 1, none⟩ = some (.int .i64 e.t) ∧ w.cell? ⟨b, 2, none⟩ = some (.int .i64 e.w) ∧ w.cell? ⟨b, 3, none⟩ = some (.int .i64 e.i) ∧ w.cell? ⟨b, 4, none⟩ = some (.int .i64 e.v) :=
  ⟨h.cell (i := 0) rfl, h.cell (i := 1) rfl, h.cell (i := 2) rfl, h.cell (i := 3) rfl, h.cell (i := 4) rfl⟩
def KBlk (w : World) (b : Nat) (e : KE) : Prop := Blk w b #[.int .i64 e.f, .int .i64 e.t, .int .i64 e.w, .int .i64 e.i, .int .i64 e.v] 77
/-- Five cells written one behind the other. -/
theorem KBlk.lay {w : World} {b : Nat} {d : KE} (h : KBlk w b d) (e : KE) : KBlk (lay5 w b 0 e) b e :=
  ((((Blk.set h 0 (.int .i64 e.f)).set 1 (.int .i64 e.t)).set 2 (.int .i64 e.w)).set 3 (.int .i64 e.i)).set 4 (.int .i64 e.v)
theorem below_lay5 {w w' : World} {B b : Nat} (h : Below B w w') (hb : B ≤ b) (e : KE) : Below B w (lay5 w' b 0 e) :=
  ((((h.setCell (p := ⟨b, 0, none⟩) hb _).setCell (p := ⟨b, 1, none⟩) hb _).setCell (p := ⟨b, 2, none⟩) hb _).setCell (p := ⟨b, 3, none⟩) hb _).setCell (p := ⟨b, 4, none⟩) hb _
theorem Blk.lay5o {w : World} {b g : Nat} {cs : Array Value} {t : TypeId} (h : Blk w b cs t) (hne : b ≠ g) (e : KE) : Blk (lay5 w g 0 e) b cs t :=
  ((((h.other (p := ⟨g, 0, none⟩) hne _).other (p := ⟨g, 1, none⟩) hne _).other (p := ⟨g, 2, none⟩) hne _).other (p := ⟨g, 3, none⟩) hne _).other (p := ⟨g, 4, none⟩) hne _
/-- The differences have encodings. -/
theorem dif_ok {d e : KE} (h : Dif d e) : numOk (e.f - d.f) = true ∧ zigOk (e.t - d.t) = true ∧ numOk e.w = true ∧ zigOk (e.i - d.i) = true := by
  obtain ⟨h1, h2, h3, h4, h5, h6, h7, h8⟩ := h
  refine ⟨?_, ?_, ?_, ?_⟩
  · simp only [numOk, decide_eq_true_eq]; omega
  · simp only [zigOk, decide_eq_true_eq]; omega
  · simp only [numOk, decide_eq_true_eq]; omega
  · simp only [zigOk, decide_eq_true_eq]; omega
/-- The bytes so far, and those of one edge more. -/
def encTo (lo hi : Int) (es : List KE) (j : Nat) : List Nat := headY lo hi es.length ++ encEs ⟨0, lo, 0, 0, 0⟩ (es.take j)
theorem encTo_step (lo hi : Int) (es : List KE) (j : Nat) (e : KE) (h : es[j]? = some e) : encTo lo hi es (j + 1) = encTo lo hi es j ++ encE (lastK ⟨0, lo, 0, 0, 0⟩ (es.take j)) e := by
  unfold encTo
  rw [g_take es j e h, encEs_snoc, List.append_assoc]
theorem encTo_small (lo hi : Int) (es : List KE) (j : Nat) : ∀ x ∈ encTo lo hi es j, x < 256 := fun x hx => by
  rcases List.mem_append.1 hx with hx | hx
  · exact headY_small _ _ _ x hx
  · exact encEs_small _ _ x hx
theorem encTo_len (lo hi : Int) (es : List KE) (j : Nat) (h : es.length ≤ 400) : (encTo lo hi es j).length ≤ 11221 := by
  have h1 := headY_len lo hi es.length
  have h2 := encEs_len (es.take j) ⟨0, lo, 0, 0, 0⟩
  rw [List.length_take] at h2
  unfold encTo
  rw [List.length_append]
  omega
theorem own_apart {w : World} {lo e size n b i : Nat} {v u : Value} {xs : List Value} (h : w.ownsRow lo e size v n xs) (hne : v.ownBlock ≠ some b) : (w.setCell ⟨b, i, none⟩ u).ownsRow lo e size v n xs := by
  refine ⟨h.1, ?_⟩
  rcases h.2 with hn | ⟨g, cap, cur, rfl, hl, hgg, rest⟩
  · exact .inl hn
  · refine .inr ⟨g, cap, cur, rfl, hl, ?_, rest⟩
    rw [Below.heap_setCell w ⟨b, i, none⟩ u g (fun e => hne (by rw [e]; rfl))]
    exact hgg
theorem own_lay5 {w : World} {lo e size n b : Nat} {v : Value} {xs : List Value} (h : w.ownsRow lo e size v n xs) (hne : v.ownBlock ≠ some b) (k : KE) : (lay5 w b 0 k).ownsRow lo e size v n xs :=
  own_apart (own_apart (own_apart (own_apart (own_apart h hne) hne) hne) hne) hne
theorem own_type {w : World} {lo e size n b : Nat} {v : Value} {xs : List Value} {cs : Array Value} {t : TypeId} (h : w.ownsRow lo e size v n xs) (hb : Blk w b cs t) (ht : t ≠ e) : v.ownBlock ≠ some b := by
  rcases h.2 with ⟨rfl, _⟩ | ⟨g, cap, cur2, rfl, _, hcell, _⟩
  · simp [Value.ownBlock]
  · intro h
    have h' : some g = some b := h
    injection h' with h'
    subst h'
    have hb2 : w.heap[g]? = some (.cells cs t (0, 0)) := hb
    rw [hb2] at hcell
    injection hcell with hcell
    injection hcell with _ h2
    exact ht h2
theorem KBlk.new (w : World) (e : KE) : KBlk (w.alloc (.cells #[.int .i64 e.f, .int .i64 e.t, .int .i64 e.w, .int .i64 e.i, .int .i64 e.v] 77)) w.heap.size e := Blk.new _ _ _
theorem KBlk.below {w w' : World} {b : Nat} {e : KE} (h : KBlk w b e) (hb : Below w.heap.size w w') : KBlk w' b e := Blk.below h hb
theorem KBlk.cells {w : World} {b : Nat} {e : KE} (h : KBlk w b e) : w.cell? ⟨b, 0, none⟩ = some (.int .i64 e.f) ∧ w.cell? ⟨b, 1, none⟩ = some (.int .i64 e.t) ∧ w.cell? ⟨b, 2, none⟩ = some (.int .i64 e.w) ∧ w.cell? ⟨b, 3, none⟩ = some (.int .i64 e.i) ∧ w.cell? ⟨b, 4, none⟩ = some (.int .i64 e.v) := ke_blk h
theorem HBox.lay5 {w : World} {b g n c : Nat} {lo hi : Int} {A : Option Addr} (h : HBox w b lo hi A n c) (hne : b ≠ g) (e : KE) : HBox (lay5 w g 0 e) b lo hi A n c := by
  unfold Go.Proofs.Ytmbabbapcjphgaa.lay5
  refine h.keep (by simp) ?_
  rw [Below.heap_setCell _ ⟨g, 0 + 4, none⟩ _ b hne, Below.heap_setCell _ ⟨g, 0 + 3, none⟩ _ b hne, Below.heap_setCell _ ⟨g, 0 + 2, none⟩ _ b hne, Below.heap_setCell _ ⟨g, 0 + 1, none⟩ _ b hne, Below.heap_setCell _ ⟨g, 0, none⟩ _ b hne]
end Go.Proofs.Ytmbabbapcjphgaa
