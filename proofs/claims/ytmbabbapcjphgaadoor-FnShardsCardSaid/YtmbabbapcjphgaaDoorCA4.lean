/- The contracts of the draws of a graph: what is drawn is a valid graph of at most 13 edges. // The contract of the model's function that makes a graph for a law: it is valid and has at most 13 edges. -/
import Derived.Test.YtmbabbapcjphgaaDoorCA3
import Derived.Deep.RegionLaw
namespace Go.Proofs.YtmbabbapcjphgaaDoor
open Go.RowKit

theorem Cur.drew {w : World} {g : Nat} {A : Option Addr} {n c : Nat} {xs : List Nat} (h : Cur w g A n c xs) : Cur w.drew g A n c xs := ⟨h.rd.drew, h.le, h.ne, h.cells⟩
theorem Cur.setFar {w : World} {g : Nat} {A : Option Addr} {n c : Nat} {xs : List Nat} (h : Cur w g A n c xs) {p : Addr} (hp : g ≠ p.block) (hA : 0 < n → ∀ b off sp, A = some ⟨b, off, sp⟩ → b ≠ p.block) (u : Value) : Cur (w.setCell p u) g A n c xs := by
  obtain ⟨hrd, hn, hne, i, hh, hi, hr, hc⟩ := h
  refine ⟨⟨hrd.len, hrd.small, fun h0 => ?_⟩, hn, hne, i, hh, hi, hr, (Below.heap_setCell w p u g hp).trans hc⟩
  obtain ⟨b, off, e, hb, hcell⟩ := hrd.lies h0
  exact ⟨b, off, e, by simpa using hb, fun j x hx => (World.cell?_setCell_other w p _ u (fun e2 => hA h0 b off none e (by rw [e2]))).trans (hcell j x hx)⟩
def GDraw (w : World) (g : Nat) (e : Ending) (w' : World) : Prop :=
  ∃ (N : Nat) (es : List GE) (B : Option Addr) (d : Nat), N ≤ 8 ∧ (∀ x ∈ es, edgeB N x = true) ∧ es.length ≤ 13 ∧ e = .returned (.agg #[.int .i64 (N : Int), .slice B es.length d]) ∧ w'.ownsRow w.heap.size 45 3 (.slice B es.length d) es.length (es.flatMap GE.cells) ∧ w.grownBy w' (some g)
theorem grown_two {a w : World} {g q : Nat} (h : a.grownBy w (some g)) (hq : a.heap.size ≤ q) (u v : Value) : a.grownBy ((w.setCell ⟨q, 0, none⟩ u).setCell ⟨q, 1, none⟩ v) (some g) := by
  have h1 : a.grownBy (w.setCell ⟨q, 0, none⟩ u) (some g) := ⟨h.os, h.tape, h.output, by simpa using h.size, fun j hj hn => (Below.heap_setCell w ⟨q, 0, none⟩ u j (by simp; omega)).trans (h.block j hj hn)⟩
  exact ⟨h1.os, h1.tape, h1.output, by simpa using h1.size, fun j hj hn => (Below.heap_setCell _ ⟨q, 1, none⟩ v j (by simp; omega)).trans (h1.block j hj hn)⟩
theorem own_drew {w : World} {lo e size n : Nat} {v : Value} {xs : List Value} (h : w.ownsRow lo e size v n xs) : w.drew.ownsRow lo e size v n xs := h
/-- What stands while a graph is drawn: the answer's block, the graph's block, its row of edges, the cursor. -/
structure GSt (w wr : World) (g G : Nat) (A : Option Addr) (n c : Nat) (xs : List Nat) (N : Int) (B : Option Addr) (k d : Nat) (cs : List Value) : Prop where
  db : DBox wr w.heap.size (.int .i64 0) (.slice none 0 0)
  gb : DBox wr G (.int .i64 N) (.slice B k d)
  own : wr.ownsRow (G + 1) 45 3 (.slice B k d) k cs
  cu : Cur wr g A n c xs
  gr : w.grownBy wr (some g)
  sz : G + 1 ≤ wr.heap.size
  l1 : g < w.heap.size
  l2 : w.heap.size < G
  hA : 0 < n → ∀ b off sp, A = some ⟨b, off, sp⟩ → b < w.heap.size
section
variable {w wr w5 : World} {g G n c k d : Nat} {A B B3 : Option Addr} {xs : List Nat} {N : Int} {cs cs3 : List Value} {k3 d3 : Nat}
theorem GSt.drew (h : GSt w wr g G A n c xs N B k d cs) : GSt w wr.drew g G A n c xs N B k d cs :=
  ⟨h.db.drew, h.gb.drew, h.own, h.cu.drew, grown_drew h.gr, h.sz, h.l1, h.l2, h.hA⟩
theorem GSt.call (h : GSt w wr g G A n c xs N B k d cs) (hc : Cur w5 g A n c xs) (hg : wr.grownBy w5 (some g)) : GSt w w5 g G A n c xs N B k d cs := by
  have h1 := h.l1
  have h2 := h.l2
  exact ⟨h.db.grown hg (by intro hh; injection hh with hh; omega), h.gb.grown hg (by intro hh; injection hh with hh; omega), own_keepG h.own hg (by omega), hc, grownBy_trans h.gr hg, Nat.le_trans h.sz hg.size, h1, h2, h.hA⟩
theorem GSt.alloc (h : GSt w wr g G A n c xs N B k d cs) (o : Obj) : GSt w (wr.alloc o) g G A n c xs N B k d cs :=
  ⟨h.db.alloc o, h.gb.alloc o, own_below h.own (below_a1 _ _), h.cu.grow (below_a1 _ _), grown_below h.gr (below_a1 _ _), by rw [World.size_alloc]; have := h.sz; omega, h.l1, h.l2, h.hA⟩
theorem GSt.mid (h : GSt w wr g G A n c xs N B k d cs) (hg : wr.grownBy w5 (Value.slice B k d).ownBlock) : DBox w5 G (.int .i64 N) (.slice B k d) :=
  h.gb.grown hg (fun hh => by have := (h.own.lt _ hh).1; omega)
theorem GSt.app (h : GSt w wr g G A n c xs N B k d cs) (hg : wr.grownBy w5 (Value.slice B k d).ownBlock) (ho : w5.ownsRow (G + 1) 45 3 (.slice B3 k3 d3) k3 cs3) :
    GSt w (w5.setCell ⟨G, 1, none⟩ (.slice B3 k3 d3)) g G A n c xs N B3 k3 d3 cs3 := by
  have h1 := h.l1
  have h2 := h.l2
  have hrow : ∀ q, (Value.slice B k d).ownBlock = some q → G + 1 ≤ q := fun q hq => (h.own.lt q hq).1
  have hc : Cur w5 g A n c xs := h.cu.far hg hrow (by omega) (fun h0 b off sp e => by have := h.hA h0 b off sp e; omega)
  have hgr : w.grownBy w5 (some g) := grownBy_far h.gr hg (fun q hq => by have := hrow q hq; omega)
  refine ⟨(h.db.grown hg (fun hh => by have := hrow _ hh; omega)).far (by show w.heap.size ≠ G; omega) _, (h.mid hg).set1 _, own_lowG ho (p := ⟨G, 1, none⟩) (by show G < G + 1; omega) _, hc.setFar (by show g ≠ G; omega) (fun h0 b off sp e => by have := h.hA h0 b off sp e; show b ≠ G; omega) _, ?_, ?_, h1, h2, h.hA⟩
  · exact ⟨hgr.os, hgr.tape, hgr.output, by simpa using hgr.size, fun j hj hn => (Below.heap_setCell w5 ⟨G, 1, none⟩ _ j (by show j ≠ G; omega)).trans (hgr.block j hj hn)⟩
  · have := hg.size
    have := h.sz
    simp
    omega
end

set_option maxRecDepth 10000 in
set_option maxHeartbeats 80000000 in
theorem drawGraph (g : Nat) (A : Option Addr) (n c : Nat) (xs : List Nat) (w : World) (hcur : Cur w g A n c xs) (hg : g < w.heap.size) (hA : 0 < n → ∀ b off sp, A = some ⟨b, off, sp⟩ → b < w.heap.size) :
    Calls Tryd.prog 24 #[.pointer (some ⟨g, 0, none⟩)] w (GDraw w g) := by
  obtain ⟨i0, hi, hz0, hz1, hz2⟩ := info_parts Tryd.infoEdge
  have HA := Lib.hid hA
  have CB := Lib.hid (fun m W (hc : Cur W g A n c xs) (h0 : 0 < m) (hm : m ≤ 256) => drawBelow g A n c m xs W hc h0 hm)
  have hb0 := below_a1 w (.cells #[.int .i64 0, .slice none 0 0] 25)
  have C0 := Lib.hid (CB.out 9 _ (hcur.grow hb0) (by omega) (by omega))
  have D0 := Lib.hid (DBox.new w (.int .i64 0) (.slice none 0 0) 25)
  have HB0 := Lib.hid (grownBy_of_below hb0 (some g))
  have hw0 : (w.alloc (.cells #[.int .i64 0, .slice none 0 0] 25)).heap.size = w.heap.size + 1 := by simp
  clear hcur hA hb0
  go_enter Tryd.func24, Tryd.ntmps24
  go_wp2_with fail
  refine C0.out.mono ?_
  rintro e w1 ⟨N, hN, rfl, hcu1, hg1⟩
  have hs1 := hg1.size
  rw [hw0] at hs1
  have D1 := Lib.hid ((D0.out.grown hg1 (by intro hh; injection hh with hh; omega)).alloc (.cells #[.int .i64 (N : Int), .slice none 0 0] 25))
  have G1 := Lib.hid (DBox.new w1 (.int .i64 (N : Int)) (.slice none 0 0) 25)
  have HB1 := Lib.hid (grown_below (grownBy_trans HB0.out hg1) (below_a1 w1 (.cells #[.int .i64 (N : Int), .slice none 0 0] 25)))
  have HC1 := Lib.hid (hcu1.grow (below_a1 w1 (.cells #[.int .i64 (N : Int), .slice none 0 0] 25)))
  have hw1 : (w1.alloc (.cells #[.int .i64 (N : Int), .slice none 0 0] 25)).heap.size = w1.heap.size + 1 := by simp
  clear hcu1 hg1 D0 HB0 C0 hw0
  obtain ⟨l0, x0, x1, xf⟩ := D1.out
  have xf0 := xf 0
  have xf1 := xf 1
  obtain ⟨gl, g0, g1, gf⟩ := G1.out
  clear xf gf
  by_cases hN0 : N = 0
  · subst hN0
    have hz : ((0 : Nat) : Int) = 0 := rfl
    simp only [hz] at x0 x1 xf0 xf1 g0 g1
    go_wp2
    refine bodyPost_ret (v := .agg #[.int .i64 0, .slice none 0 0]) (by simp [results, Tryd.results24, go_sem, x0, x1]) rfl ?_
    exact ⟨0, [], none, 0, by omega, by simp, by simp, rfl, World.ownsRow_nil _ _ _ _, grown_two HB1.out (Nat.le_refl _) _ _⟩
  · have hNp : 0 < N := by omega
    have hNz : ((N : Int) == 0) = false := by simp; omega
    have C1 := Lib.hid (CB.out 14 _ HC1.out (by omega) (by omega))
    go_wp2_with fail
    refine C1.out.mono ?_
    rintro e w2 ⟨j, hj, rfl, hcu2, hg2⟩
    have hs2 := hg2.size
    rw [hw1] at hs2
    have D2 := Lib.hid (D1.out.grown hg2 (by intro hh; injection hh with hh; omega))
    have G2 := Lib.hid (G1.out.grown hg2 (by intro hh; injection hh with hh; omega))
    have HB2 := Lib.hid (grownBy_trans HB1.out hg2)
    have HC2 := Lib.hid hcu2
    have CN := Lib.hid (fun W (hc : Cur W g A n c xs) => CB.out N W hc hNp (by omega))
    have C8 : Hid (∀ W, Cur W g A n c xs → Calls Tryd.prog 27 #[.pointer (some ⟨g, 0, none⟩), .int .i64 8] W (BelowRes W g A n c xs 8)) := Lib.hid (fun W hc => CB.out 8 W hc (by omega) (by omega))
    have hgs : g < w.heap.size := hg
    clear hcu2 hg2 D1 G1 HB1 HC1 l0 x0 x1 xf0 xf1 gl g0 g1 C1
    have hlo : w1.heap.size < w2.heap.size := by omega
    go_wp2
    go_loopw [4] (fun q wr => ∃ (j : Nat) (es : List GE) (B : Option Addr) (d : Nat), q = .int .i64 (j : Int) ∧ es.length + j ≤ 13 ∧ Hid (∀ x ∈ es, edgeB N x = true) ∧ Hid (GSt w wr g w1.heap.size A n c xs N B es.length d (es.flatMap GE.cells))) (fun q _ => (intOf q).toNat)
    case atStart => exact ⟨j, [], none, 0, rfl, by simp; omega, Lib.hid (by simp), Lib.hid ⟨D2.out, G2.out, World.ownsRow_nil _ _ _ _, HC2.out, HB2.out, by omega, hg, by omega, HA.out⟩⟩
    case round =>
      clear D2 G2 HC2 HB2 hs2 hlo
      obtain ⟨j, es, B, d, rfl, hj, hes, HS⟩ := hrel
      by_cases hj0 : 0 < j
      · obtain ⟨gl, g0, g1, gf⟩ := HS.out.gb
        have gf1 := gf 1
        have hsz := HS.out.sz
        clear gf
        go_wp2
        obtain ⟨jj, HJJ⟩ : ∃ jj, Hid (j = jj + 1) := ⟨j - 1, Lib.hid (by omega)⟩
        have HES := Lib.hid hes.out
        have HJ := Lib.hid hj
        have hk13 : es.length ≤ 12 := by omega
        obtain ⟨k, hk⟩ : ∃ k, k = es.length := ⟨_, rfl⟩
        obtain ⟨cs, hcs⟩ : ∃ cs, cs = es.flatMap GE.cells := ⟨_, rfl⟩
        rw [← hcs, ← hk] at HS
        rw [← hk] at g1 hk13
        have HK := Lib.hid hk
        have HCS := Lib.hid hcs
        clear hes hj HA CB hN0 hNz hs1 hw1 hgs hg hk hcs hN hNp
        go_region_law (first
          | (refine step_append_any _ rfl (.tmp 19) (.tmp 31) _ rfl (w1.heap.size + 1) 45 i0 _ 3 24 Tryd.underlying23 hi hz0 hz1 hz2 rfl (by omega) (.slice B k d) k cs rfl (own_below HS.out.own (below_a1 _ _)) (wz.heap.size + 1) (some ⟨wz.heap.size, 0, none⟩) 1 1 [.int .i64 (x1 : Int), .int .i64 (x2 : Int), .int .i64 (y : Int)] rfl (three_reads _ _ _ _ _ _ rfl) (GE.cells_one ⟨x1, x2, y⟩) (by simp only [maxLen]; omega) (by omega) (by simp; omega) ?_; intro v3 w5 hown3 hg3 hat3; obtain ⟨B3, d3, rfl, hnc3⟩ := own_formG hown3; have HM : Hid (DBox w5 w1.heap.size (.int .i64 (N : Int)) (.slice B k d) ∧ GSt w (w5.setCell ⟨w1.heap.size, 1, none⟩ (.slice B3 (k + 1) d3)) g w1.heap.size A n c xs N B3 (k + 1) d3 (cs ++ [.int .i64 (x1 : Int), .int .i64 (x2 : Int), .int .i64 (y : Int)])) := Lib.hid (by first | exact ⟨(HS.out.alloc _).mid hg3, (HS.out.alloc _).app hg3 hown3⟩ | exact ⟨(HS.out.alloc _).drew.mid hg3, (HS.out.alloc _).drew.app hg3 hown3⟩ | exact ⟨(HS.out.alloc _).drew.drew.mid hg3, (HS.out.alloc _).drew.drew.app hg3 hown3⟩); obtain ⟨gl, g0, g1, gf⟩ := HM.out.1; have gf1 := gf 1; clear gf hown3 hg3 hat3)
          | (go_simp; go_at_call 27; first
            | (have hx9 := hx1; (with_reducible refine (CN.out _ (by first | exact HS.out.cu | exact HS.out.cu.drew)).mono ?_); rintro e1 wy ⟨x2, hx2, rfl, hcq, hgq⟩; have HS := Lib.hid (by first | exact HS.out.call hcq hgq | exact HS.out.drew.call hcq hgq); obtain ⟨gl, g0, g1, gf⟩ := HS.out.gb; have gf1 := gf 1; have hsz := HS.out.sz; clear gf hx9 hcq hgq)
            | ((with_reducible refine (CN.out _ (by first | exact HS.out.cu | exact HS.out.cu.drew)).mono ?_); rintro e1 wx ⟨x1, hx1, rfl, hcq, hgq⟩; have HS := Lib.hid (by first | exact HS.out.call hcq hgq | exact HS.out.drew.call hcq hgq); obtain ⟨gl, g0, g1, gf⟩ := HS.out.gb; have gf1 := gf 1; have hsz := HS.out.sz; clear gf hcq hgq)
            | ((with_reducible refine (C8.out _ (by first | exact HS.out.cu | exact HS.out.cu.drew)).mono ?_); rintro e1 wz ⟨y, hy, rfl, hcq, hgq⟩; have HS := Lib.hid (by first | exact HS.out.call hcq hgq | exact HS.out.drew.call hcq hgq); obtain ⟨gl, g0, g1, gf⟩ := HS.out.gb; have gf1 := gf 1; have hsz := HS.out.sz; clear gf hcq hgq)))
        all_goals
          have HV : Hid (∀ x ∈ es ++ [(⟨x1, x2, y⟩ : GE)], edgeB N x = true) := Lib.hid (fun x hx => by
            rcases List.mem_append.1 hx with h | h
            · exact HES.out x h
            · rw [List.mem_singleton.1 h]
              exact decide_eq_true (by simp only; omega))
          have HQ : Hid (GSt w (w5.setCell ⟨w1.heap.size, 1, none⟩ (.slice B3 (es.length + 1) d3)) g w1.heap.size A n c xs N B3 (es.length + 1) d3 (es.flatMap GE.cells ++ [.int .i64 (x1 : Int), .int .i64 (x2 : Int), .int .i64 (y : Int)])) := Lib.hid (by
            have h := HM.out.2
            rw [HK.out, HCS.out] at h
            exact h)
          rw [HK.out]
          have hjb : j ≤ 13 := by have := HJ.out; omega
          clear HM HS gl g0 g1 gf1 hsz CN C8
          go_wp2
          go_roundw
          case rel => exact ⟨jj, es ++ [⟨x1, x2, y⟩], B3, d3, by have := HJJ.out; first | (subst this; go_num) | (congr 1; omega) | (simp only [IntKind.wrap_i64]; congr 1; omega), by rw [List.length_append]; have := HJ.out; have := HJJ.out; simp; omega, HV, Lib.hid (by rw [List.length_append, flat_snocG]; first | exact HQ.out | exact HQ.out.drew)⟩
          case measure => (have := HJJ.out; simp [intOf]; omega)
      · obtain rfl : j = 0 := by omega
        obtain ⟨l0, x0, x1, xf⟩ := HS.out.db
        have xf0 := xf 0
        have xf1 := xf 1
        obtain ⟨gl, g0, g1, gf⟩ := HS.out.gb
        clear xf gf
        go_wp2
        refine bodyPost_ret (v := .agg #[.int .i64 (N : Int), .slice B es.length d]) (by simp [results, Tryd.results24, go_sem, x0, x1]) rfl ?_
        exact ⟨N, es, B, d, by omega, hes.out, by omega, rfl, own_monoG (own_lowG (own_lowG HS.out.own (p := ⟨w.heap.size, 0, none⟩) (by show w.heap.size < w1.heap.size + 1; omega) _) (p := ⟨w.heap.size, 1, none⟩) (by show w.heap.size < w1.heap.size + 1; omega) _) (by omega), grown_two HS.out.gr (Nat.le_refl _) _ _⟩
end Go.Proofs.YtmbabbapcjphgaaDoor
namespace Go.Proofs.YtmbabbapcjphgaaDoor
open Go.RowKit

def GMade (w : World) (e : Ending) (w' : World) : Prop :=
  ∃ (N : Nat) (es : List GE) (B : Option Addr) (d : Nat), graphB N es = true ∧ es.length ≤ 13 ∧ e = .returned (.agg #[.int .i64 (N : Int), .slice B es.length d]) ∧ SlG w' B es.length es ∧ Below w.heap.size w w'
theorem made_valid {N : Nat} {es : List GE} (hN : N ≤ 8) (h : ∀ x ∈ es, edgeB N x = true) (hl : es.length ≤ 13) : graphB N es = true := by
  unfold graphB
  rw [Bool.and_eq_true, decide_eq_true_iff, List.all_eq_true]
  exact ⟨⟨by omega, by omega, by omega⟩, h⟩
theorem made_none {es : List GE} (h : ∀ x ∈ es, edgeB (0 : Nat) x = true) : es = [] := by
  cases es with
  | nil => rfl
  | cons e r => have := edgeB_iff (h e (by simp)); omega

set_option maxRecDepth 10000 in
set_option maxHeartbeats 2000000 in
theorem makeGraph (A : Option Addr) (n c : Nat) (xs : List Nat) (w : World) (hr : Rd w A n xs) (hn : n ≤ 1048576) :
    Calls Tryd.prog 6 #[.slice A n c] w (GMade w) := by
  have hb0 := below_a1 w (.cells #[.int .i64 0, .slice none 0 0] 25)
  have C1 := Lib.hid (drawNew A n c xs _ (hr.below hb0) hn)
  have HR := Lib.hid hr
  have D0 := Lib.hid (DBox.new w (.int .i64 0) (.slice none 0 0) 25)
  have HB0 := Lib.hid hb0
  have hw0 : (w.alloc (.cells #[.int .i64 0, .slice none 0 0] 25)).heap.size = w.heap.size + 1 := by simp
  clear hr hb0
  go_enter Tryd.func6, Tryd.ntmps6
  go_wp2_with fail
  refine C1.out.mono ?_
  rintro e w1 ⟨rfl, hsz, hcur, hb1⟩
  rw [hw0] at hsz hcur ⊢
  have hA : 0 < n → ∀ b off sp, A = some ⟨b, off, sp⟩ → b < w1.heap.size := fun hn0 b off sp e => by
    obtain ⟨b', off', e', hb, _⟩ := HR.out.lies hn0
    rw [e'] at e
    injection e with e
    injection e with e1 e2 e3
    omega
  have C2 := Lib.hid (drawGraph (w.heap.size + 1) A n c xs w1 hcur hsz hA)
  have D1 := Lib.hid (D0.out.below hb1)
  have HB1 := Lib.hid (g_chain HB0.out hb1)
  clear C1 hcur hb1 D0 HB0 hA
  go_wp2_with fail
  refine C2.out.mono ?_
  rintro e w2 ⟨N, es, B, d, hN, hes, hl, rfl, hown, hgr⟩
  have D2q := Lib.hid (D1.out.grown hgr (by intro hh; injection hh with hh; omega))
  have D2 := Lib.hid (D2q.out.alloc (.cells #[.int .i64 (N : Int), .slice B es.length d] 25))
  have G2 := Lib.hid (DBox.new w2 (.int .i64 (N : Int)) (.slice B es.length d) 25)
  have HB2 : Hid (Below w.heap.size w w2) := Lib.hid (HB1.out.grown hgr HB1.out.size (fun q hq => by injection hq with hq; omega))
  have HO2 := Lib.hid hown
  have HL2 : Hid (w.heap.size < w2.heap.size ∧ w.heap.size < w1.heap.size) := Lib.hid (by have := hgr.size; have := D1.out.lt; omega)
  have HES := Lib.hid hes
  clear C2 hgr hown D1 HB1
  obtain ⟨l0, x0, x1, xf⟩ := D2.out
  have xf0 := xf 0
  have xf1 := xf 1
  obtain ⟨gl, g0, g1, gf⟩ := G2.out
  have gf0 := gf 0
  clear xf gf hes l0 gl hsz
  by_cases hN0 : N = 0
  · subst hN0
    obtain rfl := made_none HES.out
    have hz : ((0 : Nat) : Int) = 0 := rfl
    simp only [hz, List.length_nil] at x0 x1 xf0 xf1 g0 g1 gf0
    obtain ⟨_, y0, y1, yf⟩ := D2q.out.alloc (.cells #[.int .i64 1, .slice B 0 d] 25)
    have yf0 := yf 0
    have yf1 := yf 1
    clear yf
    go_wp2
    refine bodyPost_ret (v := .agg #[.int .i64 1, .slice B 0 d]) (by simp [results, Tryd.results6, go_sem, y0, y1]) rfl ?_
    refine ⟨1, [], B, d, rfl, by simp, rfl, SlG.nil, ?_⟩
    exact below_two (g_chain HB2.out (below_a1 _ _)) _ _
  · have hNz : ((N : Int) == 0) = false := by simp; omega
    go_wp2
    refine bodyPost_ret (v := .agg #[.int .i64 (N : Int), .slice B es.length d]) (by simp [results, Tryd.results6, go_sem, x0, x1]) rfl ?_
    refine ⟨N, es, B, d, made_valid hN HES.out hl, hl, rfl, ?_, below_two (g_chain HB2.out (below_a1 _ _)) _ _⟩
    exact SlG.of_own (own_lowG (own_lowG (own_below HO2.out (below_a1 _ _)) (p := ⟨w.heap.size, 0, none⟩) HL2.out.2 _) (p := ⟨w.heap.size, 1, none⟩) HL2.out.2 _) rfl
end Go.Proofs.YtmbabbapcjphgaaDoor
