/- The numbers of edges at the vertices, as data; the contracts of the model's and the program's functions that count them. -/
import Derived.Test.YtmlfhjkogcabiabGraphS
import Derived.Test.YtmlfhjkogcabiabGrEq
namespace Go.Proofs.Ytmlfhjkogcabiab
open Go.RowKit

/-- One more at place i. -/
def bump (l : List Int) (i : Nat) : List Int := l.set i (l.getD i 0 + 1)
def degs (key : GE → Int) (n : Nat) (es : List GE) : List Int := es.foldl (fun l e => bump l (key e).toNat) (List.replicate n 0)
def degsOf (key : GE → Int) (N : Int) (es : List GE) : List Int := if graphB N es then degs key N.toNat es else []
theorem bump_len (l : List Int) (i : Nat) : (bump l i).length = l.length := by simp [bump]
theorem degs_snoc (key : GE → Int) (n : Nat) (es : List GE) (e : GE) : degs key n (es ++ [e]) = bump (degs key n es) (key e).toNat := by simp [degs]
theorem fold_len (key : GE → Int) : ∀ (es : List GE) (l : List Int), (es.foldl (fun l e => bump l (key e).toNat) l).length = l.length
  | [], _ => rfl
  | e :: r, l => by rw [List.foldl_cons, fold_len key r, bump_len]
theorem degs_len (key : GE → Int) (n : Nat) (es : List GE) : (degs key n es).length = n := by
  unfold degs
  rw [fold_len]
  simp
theorem bump_bound {l : List Int} {i : Nat} {q : Int} (h : ∀ x ∈ l, 0 ≤ x ∧ x ≤ q) (hq : 0 ≤ q) : ∀ x ∈ bump l i, 0 ≤ x ∧ x ≤ q + 1 := by
  intro x hx
  unfold bump at hx
  rcases List.mem_or_eq_of_mem_set hx with hx | rfl
  · have := h x hx; omega
  · rw [List.getD_eq_getElem?_getD]
    cases hh : l[i]? with
    | none => simp; omega
    | some y => have := h y (List.mem_of_getElem? hh); simp; omega
theorem fold_bound (key : GE → Int) : ∀ (es : List GE) (l : List Int) (q : Int), 0 ≤ q → (∀ x ∈ l, 0 ≤ x ∧ x ≤ q) → ∀ x ∈ es.foldl (fun l e => bump l (key e).toNat) l, 0 ≤ x ∧ x ≤ q + es.length
  | [], l, q, _, h => by simpa using h
  | e :: r, l, q, hq, h => by
    intro x hx
    rw [List.foldl_cons] at hx
    have := fold_bound key r _ (q + 1) (by omega) (bump_bound h hq) x hx
    rw [List.length_cons]
    omega
theorem degs_bound (key : GE → Int) (n : Nat) (es : List GE) : ∀ x ∈ degs key n es, 0 ≤ x ∧ x ≤ es.length := by
  intro x hx
  have := fold_bound key es (List.replicate n 0) 0 (by omega) (fun y hy => by rw [List.eq_of_mem_replicate hy]; omega) x hx
  omega
theorem vi_bump (l : List Int) (i : Nat) (v : Int) : (vi l).set i (.int .i64 v) = vi (l.set i v) := by simp [vi, List.map_set]

def OwI (w : World) (lo : Nat) (A : Option Addr) (n c : Nat) (xs : List Int) : Prop := w.ownsRow lo 3 1 (.slice A n c) n (vi xs)
def MadeI (w : World) (xs : List Int) (e : Ending) (w' : World) : Prop :=
  ∃ A n c, e = .returned (.slice A n c) ∧ OwI w' w.heap.size A n c xs ∧ Below w.heap.size w w'
theorem flat_one : ∀ xs : List Int, xs.flatMap (fun x : Int => [Value.int .i64 x]) = vi xs
  | [] => rfl
  | x :: r => by rw [List.flatMap_cons, flat_one r]; rfl
theorem made_zero (M : Nat) (key : GE → Int) (es : List GE) : (madeCells (Value.int .i64 0).cells (M * 1)).toList = vi (degs key M (es.take 0)) := by
  rw [g_rep (fun x : Int => [Value.int .i64 x]) 0 1 (fun _ => rfl) (by omega) (Value.int .i64 0).cells rfl M, flat_one]
  rfl
theorem degs_at {key : GE → Int} {M : Nat} {es : List GE} {f : Nat} (hf : f < M) : ∃ x : Int, (degs key M es)[f]? = some x ∧ 0 ≤ x ∧ x ≤ es.length := by
  have hl : f < (degs key M es).length := by rw [degs_len]; exact hf
  exact ⟨(degs key M es)[f], List.getElem?_eq_getElem hl, degs_bound key M es _ (List.getElem_mem hl)⟩
theorem degs_step {key : GE → Int} {M k : Nat} {es : List GE} {e : GE} {f : Nat} {x : Int} (he : es[k]? = some e) (hk : key e = (f : Int)) (hx : (degs key M (es.take k))[f]? = some x) : vi (degs key M (es.take (k + 1))) = (vi (degs key M (es.take k))).set f (.int .i64 (x + 1)) := by
  rw [g_take es k e he, degs_snoc, hk, Int.toNat_natCast, vi_bump]
  unfold bump
  rw [List.getD_eq_getElem?_getD, hx]
  rfl

set_option maxRecDepth 10000 in
set_option maxHeartbeats 4000000 in
theorem specIn (N : Int) (A : Option Addr) (n c : Nat) (es : List GE) (w : World) (hr : SlG w A n es) (hn : n ≤ 1048576) :
    Calls Try.prog 29 #[.agg #[.int .i64 N, .slice A n c]] w (MadeI w (degsOf GE.t N es)) := by
  obtain ⟨i0, hi, hz0, hz1, hz2⟩ := info_parts Try.infoInt
  have HEL := Lib.hid hr.len
  have HR := Lib.hid hr
  have CG := Lib.hid (fun W (h : Below w.heap.size w W) => specGraphOk N A n c es W (hr.below h) hn)
  clear hr
  go_enter Try.func29, Try.ntmps29
  go_wp2_with fail
  refine (CG.out _ (below_a1 _ _)).mono ?_
  rintro e w1 ⟨rfl, hb1⟩
  have X1 := Lib.hid ((NBox.new w N A n c 33).below hb1)
  have HB1 := Lib.hid (g_chain (below_a1 w (.cells #[.int .i64 N, .slice A n c] 33)) hb1)
  clear hb1
  obtain ⟨l0, x0, x1⟩ := X1.out
  cases hv : graphB N es with
  | false =>
    have HD : Hid (degsOf GE.t N es = []) := Lib.hid (by unfold degsOf; rw [hv]; rfl)
    go_wp2
    go_ret
    rw [HD.out]
    exact ⟨none, 0, 0, rfl, World.ownsRow_nil _ _ _ _, HB1.out⟩
  | true =>
    have HD : Hid (degsOf GE.t N es = degs GE.t N.toNat es) := Lib.hid (by unfold degsOf; rw [hv]; rfl)
    obtain ⟨h1, h2, h3, h4⟩ := graphB_iff hv
    have H4 := Lib.hid h4
    rw [HEL.out] at h3
    clear hv h4
    obtain ⟨M, rfl⟩ : ∃ M : Nat, N = (M : Int) := ⟨N.toNat, by omega⟩
    rw [Int.toNat_natCast] at HD
    go_wp2_with (refine wpList_make_full _ rfl (.tmp 10) (.tmp 10) 22 rfl w1.heap.size 3 i0 (.int .i64 0) 1 Try.underlying22 hi hz0 hz1 .i64 .i64 _ _ M rfl rfl rfl rfl (by rw [hz2]; omega) (by unfold maxLen; omega) (Nat.le_refl _) ?_; intro w2 hown hg; have hb2 : Below w1.heap.size w1 w2 := (Below.refl _ _).grown hg (Nat.le_refl _) (by simp); have X2 := Lib.hid (X1.out.below hb2); have HB2 := Lib.hid (g_chain HB1.out hb2); rw [made_zero M GE.t es] at hown; have HO2 := Lib.hid hown; clear hown hg hb2 l0 x0 x1; obtain ⟨l0, x0, x1⟩ := X2.out)
    have hg1 : w.heap.size < w1.heap.size := X1.out.lt
    go_loopw [15] (fun i wr => ∃ k : Nat, k ≤ n ∧ i = .int .i64 k ∧ Hid (NBox wr w.heap.size M A n c) ∧ Hid (Below w.heap.size w wr) ∧ Hid (wr.ownsRow w1.heap.size 3 1 (.slice (some ⟨w1.heap.size, 0, none⟩) M M) M (vi (degs GE.t M (es.take k))))) (fun i _ => n - (intOf i).toNat)
    case atStart => exact ⟨0, Nat.zero_le _, rfl, X2, HB2, HO2⟩
    case round =>
      clear X2 HB2 HO2 l0 x0 x1
      obtain ⟨k, hk, rfl, hx, hbel, hown⟩ := hrel
      by_cases hlt : k < n
      · obtain ⟨b, off, e, rfl, hbw, he, c0, c1, c2⟩ := HR.out.at_ hlt
        have c0 := (hbel.out.cell (p := ⟨b, off + k * 3, none⟩) hbw).trans c0
        have c1 := (hbel.out.cell (p := ⟨b, off + k * 3 + 1, none⟩) hbw).trans c1
        have c2 := (hbel.out.cell (p := ⟨b, off + k * 3 + 2, none⟩) hbw).trans c2
        have hh := edgeB_iff (H4.out e (List.mem_of_getElem? he.out))
        obtain ⟨F, T, W0⟩ := e
        simp only at hh c0 c1 c2
        obtain ⟨f, rfl⟩ : ∃ f : Nat, T = (f : Int) := ⟨Int.toNat T, by omega⟩
        have hfM : f < M := by omega
        obtain ⟨x, hx1, hx2, hx3⟩ := degs_at (key := GE.t) (es := es.take k) hfM
        have hx4 : x ≤ 400 := by have := List.length_take_le k es; rw [HEL.out] at *; omega
        have HST := Lib.hid (degs_step (key := GE.t) (M := M) he.out (f := f) rfl hx1)
        have HX1 := Lib.hid hx1
        have HA1 := Lib.hid (below_a1 wr (.cells #[.int .i64 F, .int .i64 (f : Int), .int .i64 W0] 58))
        have HOW := Lib.hid (own_below hown.out HA1.out)
        obtain ⟨l0, x0, x1⟩ := hx.out
        have hc0 : (wr.alloc (.cells #[.int .i64 F, .int .i64 (f : Int), .int .i64 W0] 58)).cell? ⟨w1.heap.size, f, none⟩ = some (.int .i64 x) := (HOW.out.cellAt f (by omega)).trans (by rw [vi_get, HX1.out]; first | done | rfl)
        have hf0 := HOW.out.frozenAt f
        have HS := Lib.hid (hown.out.stored f (.int .i64 (x + 1)))
        rw [← HST.out] at HS
        have hgl : w1.heap.size < wr.heap.size := (hown.out.lt w1.heap.size rfl).2
        have hgl2 : ¬ w1.heap.size = wr.heap.size := by omega
        clear hx1 hx3
        go_wp2
        go_roundw
        case rel =>
          refine ⟨k + 1, by omega, by go_num, Lib.hid ?_, Lib.hid ?_, Lib.hid ?_⟩
          · exact (hx.out.keep (by simp) (Below.heap_setCell wr ⟨w1.heap.size, f, none⟩ (.int .i64 (x + 1)) w.heap.size (by show w.heap.size ≠ w1.heap.size; omega))).alloc _
          · exact (hbel.out.setCell (p := ⟨w1.heap.size, f, none⟩) (by show w.heap.size ≤ w1.heap.size; omega) _).alloc (by simp; omega) _
          · exact own_below HS.out.1 (below_a1 _ _)
        case measure => simp [intOf]; omega
      · obtain rfl : k = n := by omega
        obtain ⟨l0, x0, x1⟩ := hx.out
        go_wp2
        go_ret
        rw [HD.out]
        have h := hown.out
        rw [List.take_of_length_le (by rw [HEL.out]; exact Nat.le_refl _)] at h
        exact ⟨_, _, _, rfl, own_monoG h (by omega), hbel.out⟩
end Go.Proofs.Ytmlfhjkogcabiab
