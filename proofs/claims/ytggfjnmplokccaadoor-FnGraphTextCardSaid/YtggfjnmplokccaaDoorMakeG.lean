/- The contract of the model's function that makes a graph for a law: it is valid and has at most 13 edges. -/
import Derived.Test.YtggfjnmplokccaaDoorDrawG
namespace Go.Proofs.YtggfjnmplokccaaDoor
open Go.RowKit

def GMade (w : World) (e : Ending) (w' : World) : Prop :=
  ∃ (N : Nat) (es : List GE) (B : Option Addr) (d : Nat), graphB N es = true ∧ es.length ≤ 13 ∧ e = .returned (.agg #[.int .i64 (N : Int), .slice B es.length d]) ∧ SlG w' B es.length es ∧ Below w.heap.size w w'
theorem made_valid {N : Nat} {es : List GE} (hN : N ≤ 8) (h : ∀ x ∈ es, edgeB N x = true) (hl : es.length ≤ 13) : graphB N es = true := by
  unfold graphB
  rw [Bool.and_eq_true, decide_eq_true_iff, List.all_eq_true]
  exact ⟨⟨by omega, by omega, by omega⟩, h⟩
theorem made_none {es : List GE} (h : ∀ x ∈ es, edgeB (0 : Nat) x = true) : es = [] := by
  cases es with
  | nil => rfl
  | cons e r => have := edgeB_iff (h e (by simp)); omega

set_option maxRecDepth 10000 in
set_option maxHeartbeats 2000000 in
theorem makeGraph (A : Option Addr) (n c : Nat) (xs : List Nat) (w : World) (hr : Rd w A n xs) (hn : n ≤ 1048576) :
    Calls Tryd.prog 10 #[.slice A n c] w (GMade w) := by
  have hb0 := below_a1 w (.cells #[.int .i64 0, .slice none 0 0] 24)
  have C1 := Lib.hid (drawNew A n c xs _ (hr.below hb0) hn)
  have HR := Lib.hid hr
  have D0 := Lib.hid (DBox.new w (.int .i64 0) (.slice none 0 0) 24)
  have HB0 := Lib.hid hb0
  have hw0 : (w.alloc (.cells #[.int .i64 0, .slice none 0 0] 24)).heap.size = w.heap.size + 1 := by simp
  clear hr hb0
  go_enter Tryd.func10, Tryd.ntmps10
  go_wp2_with fail
  refine C1.out.mono ?_
  rintro e w1 ⟨rfl, hsz, hcur, hb1⟩
  rw [hw0] at hsz hcur ⊢
  have hA : 0 < n → ∀ b off sp, A = some ⟨b, off, sp⟩ → b < w1.heap.size := fun hn0 b off sp e => by
    obtain ⟨b', off', e', hb, _⟩ := HR.out.lies hn0
    rw [e'] at e
    injection e with e
    injection e with e1 e2 e3
    omega
  have C2 := Lib.hid (drawGraph (w.heap.size + 1) A n c xs w1 hcur hsz hA)
  have D1 := Lib.hid (D0.out.below hb1)
  have HB1 := Lib.hid (g_chain HB0.out hb1)
  clear C1 hcur hb1 D0 HB0 hA
  go_wp2_with fail
  refine C2.out.mono ?_
  rintro e w2 ⟨N, es, B, d, hN, hes, hl, rfl, hown, hgr⟩
  have D2q := Lib.hid (D1.out.grown hgr (by intro hh; injection hh with hh; omega))
  have D2 := Lib.hid (D2q.out.alloc (.cells #[.int .i64 (N : Int), .slice B es.length d] 24))
  have G2 := Lib.hid (DBox.new w2 (.int .i64 (N : Int)) (.slice B es.length d) 24)
  have HB2 : Hid (Below w.heap.size w w2) := Lib.hid (HB1.out.grown hgr HB1.out.size (fun q hq => by injection hq with hq; omega))
  have HO2 := Lib.hid hown
  have HL2 : Hid (w.heap.size < w2.heap.size ∧ w.heap.size < w1.heap.size) := Lib.hid (by have := hgr.size; have := D1.out.lt; omega)
  have HES := Lib.hid hes
  clear C2 hgr hown D1 HB1
  obtain ⟨l0, x0, x1, xf⟩ := D2.out
  have xf0 := xf 0
  have xf1 := xf 1
  obtain ⟨gl, g0, g1, gf⟩ := G2.out
  have gf0 := gf 0
  clear xf gf hes l0 gl hsz
  by_cases hN0 : N = 0
  · subst hN0
    obtain rfl := made_none HES.out
    have hz : ((0 : Nat) : Int) = 0 := rfl
    simp only [hz, List.length_nil] at x0 x1 xf0 xf1 g0 g1 gf0
    obtain ⟨_, y0, y1, yf⟩ := D2q.out.alloc (.cells #[.int .i64 1, .slice B 0 d] 24)
    have yf0 := yf 0
    have yf1 := yf 1
    clear yf
    go_wp2
    refine bodyPost_ret (v := .agg #[.int .i64 1, .slice B 0 d]) (by simp [results, Tryd.results10, go_sem, y0, y1]) rfl ?_
    refine ⟨1, [], B, d, rfl, by simp, rfl, SlG.nil, ?_⟩
    exact below_two (g_chain HB2.out (below_a1 _ _)) _ _
  · have hNz : ((N : Int) == 0) = false := by simp; omega
    go_wp2
    refine bodyPost_ret (v := .agg #[.int .i64 (N : Int), .slice B es.length d]) (by simp [results, Tryd.results10, go_sem, x0, x1]) rfl ?_
    refine ⟨N, es, B, d, made_valid hN HES.out hl, hl, rfl, ?_, below_two (g_chain HB2.out (below_a1 _ _)) _ _⟩
    exact SlG.of_own (own_lowG (own_lowG (own_below HO2.out (below_a1 _ _)) (p := ⟨w.heap.size, 0, none⟩) HL2.out.2 _) (p := ⟨w.heap.size, 1, none⟩) HL2.out.2 _) rfl
end Go.Proofs.YtggfjnmplokccaaDoor
