/- Graphs: valid ones as data, and the contracts of the model's and the program's functions that ask it. Condition: at most 2^20 edges. // The contract of the draw of a graph, which says besides that the cursor stands: what is drawn is a valid graph of at most 13 edges (the make of DrawG's). // Vertex programs as data (plain lemmas; no condition): a view of an edge, sums limited to Far, first values, the new value of a vertex and the new values of its edges; the most frequent label. // Words for slices of views in memory (plain lemmas over the model; no condition): 'SlV': a slice that reads as a list of records of two truth values and two numbers; such a list laid record by record. // Views: what new ones are (no condition). // The contract of the draw of a job for a graph of m vertices: what is drawn is valid, and nothing but the cursor is written. // Sets of vertices as data: a number and bytes, whose bits are the members (no program; no condition). -/
import Derived.Test.YtlhcobkncceodaaGreatDoorCGA
import Derived.Deep.RegionLaw
namespace Go.Proofs.YtlhcobkncceodaaGreatDoor
open Go.RowKit

def edgeB (n : Int) (e : GE) : Bool := decide (0 ≤ e.f ∧ e.f < n ∧ 0 ≤ e.t ∧ e.t < n ∧ 0 ≤ e.w ∧ e.w ≤ 1000)
def graphB (n : Int) (es : List GE) : Bool := decide (0 ≤ n ∧ n ≤ 150 ∧ es.length ≤ 400) && es.all (edgeB n)
theorem edgeB_iff {n : Int} {e : GE} (h : edgeB n e = true) : 0 ≤ e.f ∧ e.f < n ∧ 0 ≤ e.t ∧ e.t < n ∧ 0 ≤ e.w ∧ e.w ≤ 1000 := of_decide_eq_true h
theorem graphB_iff {n : Int} {es : List GE} (h : graphB n es = true) : 0 ≤ n ∧ n ≤ 150 ∧ es.length ≤ 400 ∧ ∀ e ∈ es, edgeB n e = true := by
  unfold graphB at h
  rw [Bool.and_eq_true, decide_eq_true_iff, List.all_eq_true] at h
  exact ⟨h.1.1, h.1.2.1, h.1.2.2, h.2⟩
theorem graphB_no {n : Int} {es : List GE} {k : Nat} {e : GE} (h : es[k]? = some e) (he : edgeB n e = false) : graphB n es = false := by
  cases hh : graphB n es with
  | false => rfl
  | true =>
    have := (graphB_iff hh).2.2.2 e (List.mem_of_getElem? h)
    rw [he] at this
    cases this
theorem all_step {n : Int} {es : List GE} {k : Nat} {e : GE} (h : es[k]? = some e) (ha : ∀ x ∈ es.take k, edgeB n x = true) (he : edgeB n e = true) : ∀ x ∈ es.take (k + 1), edgeB n x = true := by
  rw [g_take es k e h]
  intro x hx
  rcases List.mem_append.1 hx with hx | hx
  · exact ha x hx
  · rw [List.mem_singleton.1 hx]; exact he

/-- A block that holds a graph. -/
structure NBox (w : World) (b : Nat) (N : Int) (A : Option Addr) (n c : Nat) : Prop where
  lt : b < w.heap.size
  c0 : w.cell? ⟨b, 0, none⟩ = some (.int .i64 N)
  c1 : w.cell? ⟨b, 1, none⟩ = some (.slice A n c)
section
variable {w w' : World} {b n c : Nat} {N : Int} {A : Option Addr} {e : GE}
theorem NBox.keep (h : NBox w b N A n c) (hs : w.heap.size ≤ w'.heap.size) (hk : w'.heap[b]? = w.heap[b]?) : NBox w' b N A n c :=
  ⟨Nat.lt_of_lt_of_le h.lt hs, (World.cell?_of_block (a := ⟨b, 0, none⟩) hk).trans h.c0, (World.cell?_of_block (a := ⟨b, 1, none⟩) hk).trans h.c1⟩
theorem NBox.below (h : NBox w b N A n c) (hb : Below w.heap.size w w') : NBox w' b N A n c := h.keep hb.size (hb.block b h.lt)
theorem NBox.new (w : World) (N : Int) (A : Option Addr) (n c : Nat) (t : TypeId) : NBox (w.alloc (.cells #[.int .i64 N, .slice A n c] t)) w.heap.size N A n c := ⟨by simp, by simp, by simp⟩
theorem NBox.alloc (h : NBox w b N A n c) (o : Obj) : NBox (w.alloc o) b N A n c := h.below (below_a1 w o)
end

set_option maxRecDepth 10000 in
set_option maxHeartbeats 1000000 in
theorem implEdgeOk (e : GE) (N : Int) (w : World) :
    Calls Tryz.prog 89 #[.agg #[.int .i64 e.f, .int .i64 e.t, .int .i64 e.w], .int .i64 N] w (GTell w (edgeB N e)) := by
  obtain ⟨f, t, x⟩ := e
  by_cases h1 : 0 ≤ f
  · by_cases h2 : f < N
    · by_cases h3 : 0 ≤ t
      · by_cases h4 : t < N
        · by_cases h5 : 0 ≤ x
          · by_cases h6 : x ≤ 1000
            · have HV : Hid (edgeB N ⟨f, t, x⟩ = true) := Lib.hid (by simp [edgeB, h1, h2, h3, h4, h5, h6])
              go_enter Tryz.func89, Tryz.ntmps89
              go_wp2
              go_ret
              rw [HV.out]
              exact ⟨g_bool (by simp <;> omega), below_a1 _ _⟩
            · have HV : Hid (edgeB N ⟨f, t, x⟩ = false) := Lib.hid (by simp [edgeB, h6])
              go_enter Tryz.func89, Tryz.ntmps89
              go_wp2
              go_ret
              rw [HV.out]
              exact ⟨g_bool (by first | rfl | (simp <;> omega)), below_a1 _ _⟩
          · have HV : Hid (edgeB N ⟨f, t, x⟩ = false) := Lib.hid (by simp [edgeB, h5])
            go_enter Tryz.func89, Tryz.ntmps89
            go_wp2
            go_ret
            rw [HV.out]
            exact ⟨g_bool (by first | rfl | (simp <;> omega)), below_a1 _ _⟩
        · have HV : Hid (edgeB N ⟨f, t, x⟩ = false) := Lib.hid (by simp [edgeB, h4])
          go_enter Tryz.func89, Tryz.ntmps89
          go_wp2
          go_ret
          rw [HV.out]
          exact ⟨g_bool (by first | rfl | (simp <;> omega)), below_a1 _ _⟩
      · have HV : Hid (edgeB N ⟨f, t, x⟩ = false) := Lib.hid (by simp [edgeB, h3])
        go_enter Tryz.func89, Tryz.ntmps89
        go_wp2
        go_ret
        rw [HV.out]
        exact ⟨g_bool (by first | rfl | (simp <;> omega)), below_a1 _ _⟩
    · have HV : Hid (edgeB N ⟨f, t, x⟩ = false) := Lib.hid (by simp [edgeB, h2])
      go_enter Tryz.func89, Tryz.ntmps89
      go_wp2
      go_ret
      rw [HV.out]
      exact ⟨g_bool (by first | rfl | (simp <;> omega)), below_a1 _ _⟩
  · have HV : Hid (edgeB N ⟨f, t, x⟩ = false) := Lib.hid (by simp [edgeB, h1])
    go_enter Tryz.func89, Tryz.ntmps89
    go_wp2
    go_ret
    rw [HV.out]
    exact ⟨g_bool (by first | rfl | (simp <;> omega)), below_a1 _ _⟩

set_option maxRecDepth 10000 in
set_option maxHeartbeats 2000000 in
theorem implGraphOk (N : Int) (A : Option Addr) (n c : Nat) (es : List GE) (w : World) (hr : SlG w A n es) (hn : n ≤ 1048576) :
    Calls Tryz.prog 49 #[.agg #[.int .i64 N, .slice A n c]] w (GTell w (graphB N es)) := by
  have hel := hr.len
  by_cases h1 : 0 ≤ N
  · by_cases h2 : N ≤ 150
    · by_cases h3 : n ≤ 400
      · have CE := Lib.hid (fun e W => implEdgeOk e N W)
        have HR := Lib.hid hr
        have HG : Hid ((∀ x ∈ es, edgeB N x = true) → graphB N es = true) := Lib.hid (fun hh => by
          unfold graphB
          rw [Bool.and_eq_true, decide_eq_true_iff, List.all_eq_true]
          exact ⟨⟨h1, h2, by omega⟩, hh⟩)
        have HEL := Lib.hid hel
        clear hr hel
        go_enter Tryz.func49, Tryz.ntmps49
        go_wp2
        have X0 := Lib.hid (NBox.new w N A n c 25)
        have HB0 := Lib.hid (below_a1 w (.cells #[.int .i64 N, .slice A n c] 25))
        go_loopw [22] (fun i wr => ∃ k : Nat, k ≤ n ∧ i = .int .i64 k ∧ Hid (NBox wr w.heap.size N A n c) ∧ Hid (Below w.heap.size w wr) ∧ Hid (∀ x ∈ es.take k, edgeB N x = true)) (fun i _ => n - (intOf i).toNat)
        case atStart => exact ⟨0, Nat.zero_le _, rfl, X0, HB0, Lib.hid (by simp)⟩
        case round =>
          clear X0 HB0
          obtain ⟨k, hk, rfl, hx, hbel, hall⟩ := hrel
          by_cases hlt : k < n
          · obtain ⟨b, off, e, rfl, hbw, he, c0, c1, c2⟩ := HR.out.at_ hlt
            have c0 := (hbel.out.cell (p := ⟨b, off + k * 3, none⟩) hbw).trans c0
            have c1 := (hbel.out.cell (p := ⟨b, off + k * 3 + 1, none⟩) hbw).trans c1
            have c2 := (hbel.out.cell (p := ⟨b, off + k * 3 + 2, none⟩) hbw).trans c2
            obtain ⟨l0, x0, x1⟩ := hx.out
            have hwle : w.heap.size ≤ wr.heap.size := hbel.out.size
            go_wp2_with fail
            refine (CE.out e _).mono ?_
            rintro e1 w1 ⟨rfl, hb1⟩
            have HB1 := Lib.hid (g_chain (below_a1 wr (.cells #[.int .i64 e.f, .int .i64 e.t, .int .i64 e.w] 113)) hb1)
            have X1 := Lib.hid (hx.out.below HB1.out)
            clear hb1 c0 c1 c2 l0 x0 x1
            cases hv : edgeB N e with
            | true =>
              go_wp2
              go_roundw
              case rel => exact ⟨k + 1, by omega, by go_num, X1, Lib.hid (g_chain hbel.out HB1.out), Lib.hid (all_step he.out hall.out hv)⟩
              case measure => simp [intOf]; omega
            | false =>
              have HV := Lib.hid (graphB_no he.out hv)
              go_wp2
              go_ret
              rw [HV.out]
              exact ⟨rfl, g_chain hbel.out HB1.out⟩
          · obtain rfl : k = n := by omega
            have HV := Lib.hid (HG.out (fun x hx => hall.out x (by rw [List.take_of_length_le (by rw [HEL.out]; exact Nat.le_refl _)]; exact hx)))
            go_wp2
            go_ret
            rw [HV.out]
            exact ⟨rfl, hbel.out⟩
      · have HV : Hid (graphB N es = false) := Lib.hid (by simp [graphB, hel, h3])
        clear hr hel
        go_enter Tryz.func49, Tryz.ntmps49
        go_wp2
        go_ret
        rw [HV.out]
        exact ⟨g_bool (by first | rfl | (simp <;> omega)), below_a1 _ _⟩
    · have HV : Hid (graphB N es = false) := Lib.hid (by simp [graphB, h2])
      clear hr hel
      go_enter Tryz.func49, Tryz.ntmps49
      go_wp2
      go_ret
      rw [HV.out]
      exact ⟨g_bool (by first | rfl | (simp <;> omega)), below_a1 _ _⟩
  · have HV : Hid (graphB N es = false) := Lib.hid (by simp [graphB, h1])
    clear hr hel
    go_enter Tryz.func49, Tryz.ntmps49
    go_wp2
    go_ret
    rw [HV.out]
    exact ⟨g_bool (by first | rfl | (simp <;> omega)), below_a1 _ _⟩
end Go.Proofs.YtlhcobkncceodaaGreatDoor
namespace Go.Proofs.YtlhcobkncceodaaGreatDoor
open Go.RowKit

theorem Cur.drewC {w : World} {g : Nat} {A : Option Addr} {n c : Nat} {xs : List Nat} (h : Cur w g A n c xs) : Cur w.drew g A n c xs := ⟨h.rd.drew, h.le, h.ne, h.cells⟩
theorem Cur.setFarC {w : World} {g : Nat} {A : Option Addr} {n c : Nat} {xs : List Nat} (h : Cur w g A n c xs) {p : Addr} (hp : g ≠ p.block) (hA : 0 < n → ∀ b off sp, A = some ⟨b, off, sp⟩ → b ≠ p.block) (u : Value) : Cur (w.setCell p u) g A n c xs := by
  obtain ⟨hrd, hn, hne, i, hh, hi, hr, hc⟩ := h
  refine ⟨⟨hrd.len, hrd.small, fun h0 => ?_⟩, hn, hne, i, hh, hi, hr, (Below.heap_setCell w p u g hp).trans hc⟩
  obtain ⟨b, off, e, hb, hcell⟩ := hrd.lies h0
  exact ⟨b, off, e, by simpa using hb, fun j x hx => (World.cell?_setCell_other w p _ u (fun e2 => hA h0 b off none e (by rw [e2]))).trans (hcell j x hx)⟩
theorem grown_twoC {a w : World} {g q : Nat} (h : a.grownBy w (some g)) (hq : a.heap.size ≤ q) (u v : Value) : a.grownBy ((w.setCell ⟨q, 0, none⟩ u).setCell ⟨q, 1, none⟩ v) (some g) := by
  have h1 : a.grownBy (w.setCell ⟨q, 0, none⟩ u) (some g) := ⟨h.os, h.tape, h.output, by simpa using h.size, fun j hj hn => (Below.heap_setCell w ⟨q, 0, none⟩ u j (by simp; omega)).trans (h.block j hj hn)⟩
  exact ⟨h1.os, h1.tape, h1.output, by simpa using h1.size, fun j hj hn => (Below.heap_setCell _ ⟨q, 1, none⟩ v j (by simp; omega)).trans (h1.block j hj hn)⟩
/-- What stands while a graph is drawn: the answer's block, the graph's block, its row of edges, the cursor. -/
structure GStC (w wr : World) (g G : Nat) (A : Option Addr) (n c : Nat) (xs : List Nat) (N : Int) (B : Option Addr) (k d : Nat) (cs : List Value) : Prop where
  db : DBox wr w.heap.size (.int .i64 0) (.slice none 0 0)
  gb : DBox wr G (.int .i64 N) (.slice B k d)
  own : wr.ownsRow (G + 1) 113 3 (.slice B k d) k cs
  cu : Cur wr g A n c xs
  gr : w.grownBy wr (some g)
  sz : G + 1 ≤ wr.heap.size
  l1 : g < w.heap.size
  l2 : w.heap.size < G
  hA : 0 < n → ∀ b off sp, A = some ⟨b, off, sp⟩ → b < w.heap.size
section
variable {w wr w5 : World} {g G n c k d : Nat} {A B B3 : Option Addr} {xs : List Nat} {N : Int} {cs cs3 : List Value} {k3 d3 : Nat}
theorem GStC.drew (h : GStC w wr g G A n c xs N B k d cs) : GStC w wr.drew g G A n c xs N B k d cs :=
  ⟨h.db.drew, h.gb.drew, h.own, h.cu.drewC, grown_drew h.gr, h.sz, h.l1, h.l2, h.hA⟩
theorem GStC.call (h : GStC w wr g G A n c xs N B k d cs) (hc : Cur w5 g A n c xs) (hg : wr.grownBy w5 (some g)) : GStC w w5 g G A n c xs N B k d cs := by
  have h1 := h.l1
  have h2 := h.l2
  exact ⟨h.db.grown hg (by intro hh; injection hh with hh; omega), h.gb.grown hg (by intro hh; injection hh with hh; omega), own_keepG h.own hg (by omega), hc, grownBy_trans h.gr hg, Nat.le_trans h.sz hg.size, h1, h2, h.hA⟩
theorem GStC.alloc (h : GStC w wr g G A n c xs N B k d cs) (o : Obj) : GStC w (wr.alloc o) g G A n c xs N B k d cs :=
  ⟨h.db.alloc o, h.gb.alloc o, own_below h.own (below_a1 _ _), h.cu.grow (below_a1 _ _), grown_below h.gr (below_a1 _ _), by rw [World.size_alloc]; have := h.sz; omega, h.l1, h.l2, h.hA⟩
theorem GStC.mid (h : GStC w wr g G A n c xs N B k d cs) (hg : wr.grownBy w5 (Value.slice B k d).ownBlock) : DBox w5 G (.int .i64 N) (.slice B k d) :=
  h.gb.grown hg (fun hh => by have := (h.own.lt _ hh).1; omega)
theorem GStC.app (h : GStC w wr g G A n c xs N B k d cs) (hg : wr.grownBy w5 (Value.slice B k d).ownBlock) (ho : w5.ownsRow (G + 1) 113 3 (.slice B3 k3 d3) k3 cs3) :
    GStC w (w5.setCell ⟨G, 1, none⟩ (.slice B3 k3 d3)) g G A n c xs N B3 k3 d3 cs3 := by
  have h1 := h.l1
  have h2 := h.l2
  have hrow : ∀ q, (Value.slice B k d).ownBlock = some q → G + 1 ≤ q := fun q hq => (h.own.lt q hq).1
  have hc : Cur w5 g A n c xs := h.cu.far hg hrow (by omega) (fun h0 b off sp e => by have := h.hA h0 b off sp e; omega)
  have hgr : w.grownBy w5 (some g) := grownBy_far h.gr hg (fun q hq => by have := hrow q hq; omega)
  refine ⟨(h.db.grown hg (fun hh => by have := hrow _ hh; omega)).far (by show w.heap.size ≠ G; omega) _, (h.mid hg).set1 _, own_lowG ho (p := ⟨G, 1, none⟩) (by show G < G + 1; omega) _, hc.setFarC (by show g ≠ G; omega) (fun h0 b off sp e => by have := h.hA h0 b off sp e; show b ≠ G; omega) _, ?_, ?_, h1, h2, h.hA⟩
  · exact ⟨hgr.os, hgr.tape, hgr.output, by simpa using hgr.size, fun j hj hn => (Below.heap_setCell w5 ⟨G, 1, none⟩ _ j (by show j ≠ G; omega)).trans (hgr.block j hj hn)⟩
  · have := hg.size
    have := h.sz
    simp
    omega
end

theorem flat_snocGC (es : List GE) (e : GE) : (es ++ [e]).flatMap GE.cells = es.flatMap GE.cells ++ [.int .i64 e.f, .int .i64 e.t, .int .i64 e.w] := by
  rw [List.flatMap_append]
  rfl
def GDrawC (w : World) (g : Nat) (A : Option Addr) (n c : Nat) (xs : List Nat) (e : Ending) (w' : World) : Prop :=
  ∃ (N : Nat) (es : List GE) (B : Option Addr) (d : Nat), N ≤ 8 ∧ (∀ x ∈ es, edgeB N x = true) ∧ es.length ≤ 13 ∧ e = .returned (.agg #[.int .i64 (N : Int), .slice B es.length d]) ∧ w'.ownsRow w.heap.size 113 3 (.slice B es.length d) es.length (es.flatMap GE.cells) ∧ Cur w' g A n c xs ∧ w.grownBy w' (some g)
set_option maxRecDepth 10000 in
set_option maxHeartbeats 80000000 in
theorem drawGraphC (g : Nat) (A : Option Addr) (n c : Nat) (xs : List Nat) (w : World) (hcur : Cur w g A n c xs) (hg : g < w.heap.size) (hA : 0 < n → ∀ b off sp, A = some ⟨b, off, sp⟩ → b < w.heap.size) :
    Calls Tryz.prog 79 #[.pointer (some ⟨g, 0, none⟩)] w (GDrawC w g A n c xs) := by
  obtain ⟨i0, hi, hz0, hz1, hz2⟩ := info_parts Tryz.infoEdge
  have HA := Lib.hid hA
  have CB := Lib.hid (fun m W (hc : Cur W g A n c xs) (h0 : 0 < m) (hm : m ≤ 256) => drawBelow g A n c m xs W hc h0 hm)
  have hb0 := below_a1 w (.cells #[.int .i64 0, .slice none 0 0] 25)
  have C0 := Lib.hid (CB.out 9 _ (hcur.grow hb0) (by omega) (by omega))
  have D0 := Lib.hid (DBox.new w (.int .i64 0) (.slice none 0 0) 25)
  have HB0 := Lib.hid (grownBy_of_below hb0 (some g))
  have hw0 : (w.alloc (.cells #[.int .i64 0, .slice none 0 0] 25)).heap.size = w.heap.size + 1 := by simp
  clear hcur hA hb0
  go_enter Tryz.func79, Tryz.ntmps79
  go_wp2_with fail
  refine C0.out.mono ?_
  rintro e w1 ⟨N, hN, rfl, hcu1, hg1⟩
  have hs1 := hg1.size
  rw [hw0] at hs1
  have D1 := Lib.hid ((D0.out.grown hg1 (by intro hh; injection hh with hh; omega)).alloc (.cells #[.int .i64 (N : Int), .slice none 0 0] 25))
  have G1 := Lib.hid (DBox.new w1 (.int .i64 (N : Int)) (.slice none 0 0) 25)
  have HB1 := Lib.hid (grown_below (grownBy_trans HB0.out hg1) (below_a1 w1 (.cells #[.int .i64 (N : Int), .slice none 0 0] 25)))
  have HC1 := Lib.hid (hcu1.grow (below_a1 w1 (.cells #[.int .i64 (N : Int), .slice none 0 0] 25)))
  have hw1 : (w1.alloc (.cells #[.int .i64 (N : Int), .slice none 0 0] 25)).heap.size = w1.heap.size + 1 := by simp
  clear hcu1 hg1 D0 HB0 C0 hw0
  obtain ⟨l0, x0, x1, xf⟩ := D1.out
  have xf0 := xf 0
  have xf1 := xf 1
  obtain ⟨gl, g0, g1, gf⟩ := G1.out
  clear xf gf
  by_cases hN0 : N = 0
  · subst hN0
    have hz : ((0 : Nat) : Int) = 0 := rfl
    simp only [hz] at x0 x1 xf0 xf1 g0 g1
    go_wp2
    refine bodyPost_ret (v := .agg #[.int .i64 0, .slice none 0 0]) (by simp [results, Tryz.results79, go_sem, x0, x1]) rfl ?_
    exact ⟨0, [], none, 0, by omega, by simp, by simp, rfl, World.ownsRow_nil _ _ _ _, (HC1.out.put hg (Nat.le_refl _) HA.out 0 _).put hg (Nat.le_refl _) HA.out 1 _, grown_twoC HB1.out (Nat.le_refl _) _ _⟩
  · have hNp : 0 < N := by omega
    have hNz : ((N : Int) == 0) = false := by simp; omega
    have C1 := Lib.hid (CB.out 14 _ HC1.out (by omega) (by omega))
    go_wp2_with fail
    refine C1.out.mono ?_
    rintro e w2 ⟨j, hj, rfl, hcu2, hg2⟩
    have hs2 := hg2.size
    rw [hw1] at hs2
    have D2 := Lib.hid (D1.out.grown hg2 (by intro hh; injection hh with hh; omega))
    have G2 := Lib.hid (G1.out.grown hg2 (by intro hh; injection hh with hh; omega))
    have HB2 := Lib.hid (grownBy_trans HB1.out hg2)
    have HC2 := Lib.hid hcu2
    have CN := Lib.hid (fun W (hc : Cur W g A n c xs) => CB.out N W hc hNp (by omega))
    have C8 : Hid (∀ W, Cur W g A n c xs → Calls Tryz.prog 82 #[.pointer (some ⟨g, 0, none⟩), .int .i64 8] W (BelowRes W g A n c xs 8)) := Lib.hid (fun W hc => CB.out 8 W hc (by omega) (by omega))
    have hgs : g < w.heap.size := hg
    clear hcu2 hg2 D1 G1 HB1 HC1 l0 x0 x1 xf0 xf1 gl g0 g1 C1
    have hlo : w1.heap.size < w2.heap.size := by omega
    go_wp2
    go_loopw [4] (fun q wr => ∃ (j : Nat) (es : List GE) (B : Option Addr) (d : Nat), q = .int .i64 (j : Int) ∧ es.length + j ≤ 13 ∧ Hid (∀ x ∈ es, edgeB N x = true) ∧ Hid (GStC w wr g w1.heap.size A n c xs N B es.length d (es.flatMap GE.cells))) (fun q _ => (intOf q).toNat)
    case atStart => exact ⟨j, [], none, 0, rfl, by simp; omega, Lib.hid (by simp), Lib.hid ⟨D2.out, G2.out, World.ownsRow_nil _ _ _ _, HC2.out, HB2.out, by omega, hg, by omega, HA.out⟩⟩
    case round =>
      clear D2 G2 HC2 HB2 hs2 hlo
      obtain ⟨j, es, B, d, rfl, hj, hes, HS⟩ := hrel
      by_cases hj0 : 0 < j
      · obtain ⟨gl, g0, g1, gf⟩ := HS.out.gb
        have gf1 := gf 1
        have hsz := HS.out.sz
        clear gf
        go_wp2
        obtain ⟨jj, HJJ⟩ : ∃ jj, Hid (j = jj + 1) := ⟨j - 1, Lib.hid (by omega)⟩
        have HES := Lib.hid hes.out
        have HJ := Lib.hid hj
        have hk13 : es.length ≤ 12 := by omega
        obtain ⟨k, hk⟩ : ∃ k, k = es.length := ⟨_, rfl⟩
        obtain ⟨cs, hcs⟩ : ∃ cs, cs = es.flatMap GE.cells := ⟨_, rfl⟩
        rw [← hcs, ← hk] at HS
        rw [← hk] at g1 hk13
        have HK := Lib.hid hk
        have HCS := Lib.hid hcs
        clear hes hj HA CB hN0 hNz hs1 hw1 hgs hg hk hcs hN hNp
        go_region_law (first
          | (refine step_append_any _ rfl (.tmp 19) (.tmp 31) _ rfl (w1.heap.size + 1) 113 i0 _ 3 24 Tryz.underlying23 hi hz0 hz1 hz2 rfl (by omega) (.slice B k d) k cs rfl (own_below HS.out.own (below_a1 _ _)) (wz.heap.size + 1) (some ⟨wz.heap.size, 0, none⟩) 1 1 [.int .i64 (x1 : Int), .int .i64 (x2 : Int), .int .i64 (y : Int)] rfl (three_reads _ _ _ _ _ _ rfl) (GE.cells_one ⟨x1, x2, y⟩) (by simp only [maxLen]; omega) (by omega) (by simp; omega) ?_; intro v3 w5 hown3 hg3 hat3; obtain ⟨B3, d3, rfl, hnc3⟩ := own_formG hown3; have HM : Hid (DBox w5 w1.heap.size (.int .i64 (N : Int)) (.slice B k d) ∧ GStC w (w5.setCell ⟨w1.heap.size, 1, none⟩ (.slice B3 (k + 1) d3)) g w1.heap.size A n c xs N B3 (k + 1) d3 (cs ++ [.int .i64 (x1 : Int), .int .i64 (x2 : Int), .int .i64 (y : Int)])) := Lib.hid (by first | exact ⟨(HS.out.alloc _).mid hg3, (HS.out.alloc _).app hg3 hown3⟩ | exact ⟨(HS.out.alloc _).drew.mid hg3, (HS.out.alloc _).drew.app hg3 hown3⟩ | exact ⟨(HS.out.alloc _).drew.drew.mid hg3, (HS.out.alloc _).drew.drew.app hg3 hown3⟩); obtain ⟨gl, g0, g1, gf⟩ := HM.out.1; have gf1 := gf 1; clear gf hown3 hg3 hat3)
          | (go_simp; go_at_call 82; first
            | (have hx9 := hx1; (with_reducible refine (CN.out _ (by first | exact HS.out.cu | exact HS.out.cu.drewC)).mono ?_); rintro e1 wy ⟨x2, hx2, rfl, hcq, hgq⟩; have HS := Lib.hid (by first | exact HS.out.call hcq hgq | exact HS.out.drew.call hcq hgq); obtain ⟨gl, g0, g1, gf⟩ := HS.out.gb; have gf1 := gf 1; have hsz := HS.out.sz; clear gf hx9 hcq hgq)
            | ((with_reducible refine (CN.out _ (by first | exact HS.out.cu | exact HS.out.cu.drewC)).mono ?_); rintro e1 wx ⟨x1, hx1, rfl, hcq, hgq⟩; have HS := Lib.hid (by first | exact HS.out.call hcq hgq | exact HS.out.drew.call hcq hgq); obtain ⟨gl, g0, g1, gf⟩ := HS.out.gb; have gf1 := gf 1; have hsz := HS.out.sz; clear gf hcq hgq)
            | ((with_reducible refine (C8.out _ (by first | exact HS.out.cu | exact HS.out.cu.drewC)).mono ?_); rintro e1 wz ⟨y, hy, rfl, hcq, hgq⟩; have HS := Lib.hid (by first | exact HS.out.call hcq hgq | exact HS.out.drew.call hcq hgq); obtain ⟨gl, g0, g1, gf⟩ := HS.out.gb; have gf1 := gf 1; have hsz := HS.out.sz; clear gf hcq hgq)))
        all_goals
          have HV : Hid (∀ x ∈ es ++ [(⟨x1, x2, y⟩ : GE)], edgeB N x = true) := Lib.hid (fun x hx => by
            rcases List.mem_append.1 hx with h | h
            · exact HES.out x h
            · rw [List.mem_singleton.1 h]
              exact decide_eq_true (by simp only; omega))
          have HQ : Hid (GStC w (w5.setCell ⟨w1.heap.size, 1, none⟩ (.slice B3 (es.length + 1) d3)) g w1.heap.size A n c xs N B3 (es.length + 1) d3 (es.flatMap GE.cells ++ [.int .i64 (x1 : Int), .int .i64 (x2 : Int), .int .i64 (y : Int)])) := Lib.hid (by
            have h := HM.out.2
            rw [HK.out, HCS.out] at h
            exact h)
          rw [HK.out]
          have hjb : j ≤ 13 := by have := HJ.out; omega
          clear HM HS gl g0 g1 gf1 hsz CN C8
          go_wp2
          go_roundw
          case rel => exact ⟨jj, es ++ [⟨x1, x2, y⟩], B3, d3, by have := HJJ.out; first | (subst this; go_num) | (congr 1; omega) | (simp only [IntKind.wrap_i64]; congr 1; omega), by rw [List.length_append]; have := HJ.out; have := HJJ.out; simp; omega, HV, Lib.hid (by rw [List.length_append, flat_snocGC]; first | exact HQ.out | exact HQ.out.drew)⟩
          case measure => (have := HJJ.out; simp [intOf]; omega)
      · obtain rfl : j = 0 := by omega
        obtain ⟨l0, x0, x1, xf⟩ := HS.out.db
        have xf0 := xf 0
        have xf1 := xf 1
        obtain ⟨gl, g0, g1, gf⟩ := HS.out.gb
        clear xf gf
        go_wp2
        refine bodyPost_ret (v := .agg #[.int .i64 (N : Int), .slice B es.length d]) (by simp [results, Tryz.results79, go_sem, x0, x1]) rfl ?_
        exact ⟨N, es, B, d, by omega, hes.out, by omega, rfl, own_monoG (own_lowG (own_lowG HS.out.own (p := ⟨w.heap.size, 0, none⟩) (by show w.heap.size < w1.heap.size + 1; omega) _) (p := ⟨w.heap.size, 1, none⟩) (by show w.heap.size < w1.heap.size + 1; omega) _) (by omega), (HS.out.cu.put HS.out.l1 (Nat.le_refl _) HS.out.hA 0 _).put HS.out.l1 (Nat.le_refl _) HS.out.hA 1 _, grown_twoC HS.out.gr (Nat.le_refl _) _ _⟩
end Go.Proofs.YtlhcobkncceodaaGreatDoor
namespace Go.Proofs.YtlhcobkncceodaaGreatDoor

structure VE where
  i : Bool
  o : Bool
  w : Int
  v : Int
def capF (x : Int) : Int := min (max x 0) 1099511627776
def addC (a b : Int) : Int := min (min (max a 0) 1099511627776 + min (max b 0) 1099511627776) 1099511627776
theorem addC_cap (a b : Int) : capF (capF a + capF b) = addC a b := by unfold capF addC; omega
theorem capF_lim (x : Int) : 0 ≤ capF x ∧ capF x ≤ 1099511627776 := by unfold capF; omega
theorem addC_lim (a b : Int) : 0 ≤ addC a b ∧ addC a b ≤ 1099511627776 := by unfold addC; omega
theorem addC_in {a b : Int} (h0 : 0 ≤ a) (h1 : 0 ≤ b) : addC a b = capF (a + b) := by unfold capF addC; omega

def progB (p : Int) : Bool := decide (1 ≤ p ∧ p ≤ 4)
def jobB (n p s : Int) : Bool := progB p && (if p = 3 then decide (0 ≤ s ∧ s < n) else decide (s = 0))
def vtxB (v : Int) : Bool := decide (0 ≤ v ∧ v < 150)
def firstV (p s v : Int) : Int := if progB p && vtxB v then (if p = 1 then 1048576 else if p = 3 then (if v = s then 0 else 1099511627776) else v) else 0
def firstEB (p f t d : Int) : Bool := progB p && (vtxB f && vtxB t && decide (1 ≤ d ∧ d ≤ 400))
def firstE (p f t d : Int) : Int := if firstEB p f t d then (if p = 1 then Int.tdiv 1048576 d else if p = 4 then f * 1000 + t else 1099511627776) else 0

/-! ### the views -/
def valB (x : Int) : Bool := decide (0 ≤ x ∧ x ≤ 1099511627776)
def VE.ok (e : VE) : Bool := (e.i || e.o) && (decide (0 ≤ e.w ∧ e.w ≤ 1000) && valB e.v)
def viewsB (es : List VE) : Bool := decide (es.length ≤ 400) && es.all VE.ok
def updB (p v x : Int) (es : List VE) : Bool := progB p && (vtxB v && (valB x && viewsB es))
theorem VE.ok_lim {e : VE} (h : e.ok = true) : 0 ≤ e.w ∧ e.w ≤ 1000 ∧ 0 ≤ e.v ∧ e.v ≤ 1099511627776 ∧ (e.i = true ∨ e.o = true) := by
  unfold VE.ok valB at h
  simp at h
  exact ⟨h.2.1.1, h.2.1.2, h.2.2.1, h.2.2.2, h.1⟩
theorem updB_is {p v x : Int} {es : List VE} (h : updB p v x es = true) : (1 ≤ p ∧ p ≤ 4) ∧ (0 ≤ v ∧ v < 150) ∧ (0 ≤ x ∧ x ≤ 1099511627776) ∧ es.length ≤ 400 ∧ ∀ e ∈ es, e.ok = true := by
  unfold updB progB vtxB valB viewsB at h
  simp at h
  exact ⟨h.1, h.2.1, h.2.2.1, h.2.2.2.1, h.2.2.2.2⟩

/-! ### the new value -/
def rankStep (s : Int) (e : VE) : Int := if e.i then addC s e.v else s
def rankS (es : List VE) : Int := es.foldl rankStep 0
def newRank (es : List VE) : Int := addC 157286 (Int.tdiv (17 * rankS es) 20)
def minAll (x : Int) (es : List VE) : Int := es.foldl (fun x e => min x e.v) x
def pathStep (x : Int) (e : VE) : Int := if e.i then min x (addC e.v e.w) else x
def minPath (x : Int) (es : List VE) : Int := es.foldl pathStep x
def VE.labs (e : VE) : List Int := (if e.i then [Int.tdiv e.v 1000] else []) ++ (if e.o then [Int.tmod e.v 1000] else [])
def told (es : List VE) : List Int := es.flatMap VE.labs
def mostStep (T : List Int) (q : Int × Nat) (a : Int) : Int × Nat := if q.2 < T.count a ∨ (T.count a = q.2 ∧ a < q.1) then (a, T.count a) else q
def mostR (T : List Int) (x : Int) : Int := (T.foldl (mostStep T) (x, 0)).1
def newVal (p x : Int) (es : List VE) : Int := if p = 1 then newRank es else if p = 2 then minAll x es else if p = 3 then minPath x es else mostR (told es) x
def outsN (es : List VE) : Nat := es.foldl (fun n e => if e.o then n + 1 else n) 0
def newEdge (p x : Int) (n : Nat) (e : VE) : Int :=
  if p = 1 then (if e.o then Int.tdiv x (n : Int) else e.v)
  else if p = 2 then min x e.v
  else if p = 3 then (if e.o then x else e.v)
  else capF ((if e.o then x else Int.tdiv e.v 1000) * 1000 + (if e.i then x else Int.tmod e.v 1000))
def updV (p v x : Int) (es : List VE) : Int := if updB p v x es then newVal p x es else 0
def updE (p v x : Int) (es : List VE) : List Int := if updB p v x es then es.map (newEdge p (newVal p x es) (outsN es)) else []

section
variable {es : List VE} {k : Nat} {e : VE}
theorem take_snoc {α : Type} {es : List α} {k : Nat} {e : α} (h : es[k]? = some e) : es.take (k + 1) = es.take k ++ [e] := by
  obtain ⟨hk, rfl⟩ := List.getElem?_eq_some_iff.1 h
  rw [List.take_append_getElem]
theorem rankS_lim (es : List VE) : 0 ≤ rankS es ∧ rankS es ≤ 1099511627776 := by
  unfold rankS
  suffices H : ∀ (es : List VE) (s : Int), 0 ≤ s ∧ s ≤ 1099511627776 → 0 ≤ es.foldl rankStep s ∧ es.foldl rankStep s ≤ 1099511627776 from H es 0 (by omega)
  intro es
  induction es with
  | nil => intro s h; exact h
  | cons e r ih =>
    intro s h
    rw [List.foldl_cons]
    refine ih _ ?_
    unfold rankStep
    split
    · exact addC_lim _ _
    · exact h
theorem rankS_snoc (h : es[k]? = some e) : rankS (es.take (k + 1)) = rankStep (rankS (es.take k)) e := by
  rw [take_snoc h]; unfold rankS; rw [List.foldl_append]; rfl
theorem minAll_snoc (x : Int) (h : es[k]? = some e) : minAll x (es.take (k + 1)) = min (minAll x (es.take k)) e.v := by
  rw [take_snoc h]; unfold minAll; rw [List.foldl_append]; rfl
theorem minPath_snoc (x : Int) (h : es[k]? = some e) : minPath x (es.take (k + 1)) = pathStep (minPath x (es.take k)) e := by
  rw [take_snoc h]; unfold minPath; rw [List.foldl_append]; rfl
theorem told_snoc (h : es[k]? = some e) : told (es.take (k + 1)) = told (es.take k) ++ e.labs := by
  rw [take_snoc h]; unfold told; rw [List.flatMap_append]; simp
theorem outsN_snoc (h : es[k]? = some e) : outsN (es.take (k + 1)) = if e.o then outsN (es.take k) + 1 else outsN (es.take k) := by
  rw [take_snoc h]; unfold outsN; rw [List.foldl_append]; rfl
theorem labs_len (e : VE) : e.labs.length ≤ 2 := by unfold VE.labs; split <;> split <;> simp
theorem told_len (es : List VE) : (told es).length ≤ 2 * es.length := by
  unfold told
  induction es with
  | nil => simp
  | cons e r ih => rw [List.flatMap_cons, List.length_append, List.length_cons]; have := labs_len e; omega
theorem outsN_le : ∀ (es : List VE), outsN es ≤ es.length := by
  intro es
  unfold outsN
  suffices H : ∀ (es : List VE) (s : Nat), es.foldl (fun n e => if e.o then n + 1 else n) s ≤ s + es.length by have := H es 0; omega
  intro es
  induction es with
  | nil => intro s; simp
  | cons e r ih =>
    intro s
    rw [List.foldl_cons, List.length_cons]
    have := ih (if e.o then s + 1 else s)
    by_cases hq : e.o = true <;> simp [hq] at this ⊢ <;> omega
theorem outsN_pos {es : List VE} {e : VE} (h : e ∈ es) (ho : e.o = true) : 0 < outsN es := by
  unfold outsN
  have M : ∀ (es : List VE) (s : Nat), s ≤ es.foldl (fun n e => if e.o then n + 1 else n) s := by
    intro es
    induction es with
    | nil => intro s; simp
    | cons e r ih => intro s; rw [List.foldl_cons]; have := ih (if e.o then s + 1 else s); by_cases hq : e.o = true <;> simp [hq] at this ⊢ <;> omega
  suffices H : ∀ (es : List VE) (s : Nat), e ∈ es → s < es.foldl (fun n e => if e.o then n + 1 else n) s from H es 0 h
  intro es
  induction es with
  | nil => intro s h; simp at h
  | cons a r ih =>
    intro s h
    rw [List.foldl_cons]
    rcases List.mem_cons.1 h with rfl | h
    · rw [ho]; have := M r (s + 1); simp; omega
    · have := ih (if a.o then s + 1 else s) h
      by_cases hq : a.o = true <;> simp [hq] at this ⊢ <;> omega
theorem labs_lim {e : VE} (h : 0 ≤ e.v ∧ e.v ≤ 1099511627776) : ∀ a ∈ e.labs, 0 ≤ a ∧ a ≤ 1099511627776 := by
  intro a ha
  unfold VE.labs at ha
  rw [Int.tdiv_eq_ediv_of_nonneg h.1, Int.tmod_eq_emod_of_nonneg h.1] at ha
  rcases List.mem_append.1 ha with ha | ha
  · split at ha
    · rw [List.mem_singleton.1 ha]; omega
    · simp at ha
  · split at ha
    · rw [List.mem_singleton.1 ha]; omega
    · simp at ha
theorem told_lim {es : List VE} (h : ∀ e ∈ es, e.ok = true) : ∀ a ∈ told es, 0 ≤ a ∧ a ≤ 1099511627776 := by
  intro a ha
  obtain ⟨e, he, ha⟩ := List.mem_flatMap.1 ha
  have := VE.ok_lim (h e he)
  exact labs_lim (by omega) a ha
end

/-! ### the most frequent label -/
/-- b is the most frequent element of T, the smallest one in case of a tie; x if T is empty. -/
def IsMost (T : List Int) (x b : Int) : Prop := (T = [] ∧ b = x) ∨ (b ∈ T ∧ ∀ a ∈ T, T.count a < T.count b ∨ (T.count a = T.count b ∧ b ≤ a))
theorem IsMost.uniq {T : List Int} {x b c : Int} (h : IsMost T x b) (h' : IsMost T x c) : b = c := by
  rcases h with ⟨rfl, rfl⟩ | ⟨hb, h1⟩
  · rcases h' with ⟨_, rfl⟩ | ⟨hc, _⟩
    · rfl
    · simp at hc
  · rcases h' with ⟨rfl, _⟩ | ⟨hc, h2⟩
    · simp at hb
    · have e1 := h1 c hc
      have e2 := h2 b hb
      omega
theorem IsMost.perm {T S : List Int} {x b : Int} (h : IsMost T x b) (p : T.Perm S) : IsMost S x b := by
  rcases h with ⟨rfl, rfl⟩ | ⟨hb, h1⟩
  · exact .inl ⟨p.nil_eq.symm, rfl⟩
  · exact .inr ⟨p.mem_iff.1 hb, fun a ha => by have := h1 a (p.mem_iff.2 ha); rwa [p.count_eq, p.count_eq] at this⟩
/-- What stands behind a prefix P of T, the counts in T. -/
def MostIn (T P : List Int) (x : Int) (q : Int × Nat) : Prop := (P = [] ∧ q = (x, 0)) ∨ (q.1 ∈ P ∧ q.2 = T.count q.1 ∧ ∀ a ∈ P, T.count a < q.2 ∨ (T.count a = q.2 ∧ q.1 ≤ a))
theorem MostIn.step {T P : List Int} {x : Int} {q : Int × Nat} (h : MostIn T P x q) (a : Int) (ha : a ∈ T) : MostIn T (P ++ [a]) x (mostStep T q a) := by
  have hp : 0 < T.count a := List.count_pos_iff.2 ha
  right
  unfold mostStep
  rcases h with ⟨rfl, rfl⟩ | ⟨h1, h2, h3⟩
  · rw [if_pos (.inl hp)]
    simp
  · by_cases hc : q.2 < T.count a ∨ (T.count a = q.2 ∧ a < q.1)
    · rw [if_pos hc]
      refine ⟨by simp, rfl, fun b hb => ?_⟩
      rcases List.mem_append.1 hb with hb | hb
      · have := h3 b hb
        simp only
        omega
      · rw [List.mem_singleton.1 hb]
        simp
    · rw [if_neg hc]
      refine ⟨List.mem_append_left _ h1, h2, fun b hb => ?_⟩
      rcases List.mem_append.1 hb with hb | hb
      · exact h3 b hb
      · rw [List.mem_singleton.1 hb]
        omega
theorem mostR_in (T : List Int) (x : Int) : ∀ (R P : List Int) (q : Int × Nat), (∀ a ∈ R, a ∈ T) → MostIn T P x q → MostIn T (P ++ R) x (R.foldl (mostStep T) q)
  | [], P, q, _, h => by simpa using h
  | a :: R, P, q, hR, h => by
    rw [List.foldl_cons, show P ++ a :: R = (P ++ [a]) ++ R by simp]
    exact mostR_in T x R _ _ (fun b hb => hR b (List.mem_cons_of_mem _ hb)) (h.step a (hR a (List.mem_cons_self)))
theorem mostR_is (T : List Int) (x : Int) : IsMost T x (mostR T x) := by
  have h := mostR_in T x T [] (x, 0) (fun _ h => h) (.inl ⟨rfl, rfl⟩)
  rw [List.nil_append] at h
  unfold mostR
  rcases h with ⟨h1, h2⟩ | ⟨h1, h2, h3⟩
  · left
    exact ⟨h1, by rw [h2]⟩
  · right
    refine ⟨h1, fun a ha => ?_⟩
    rw [← h2]
    exact h3 a ha
theorem mostR_lim {T : List Int} {x : Int} (hT : ∀ a ∈ T, 0 ≤ a ∧ a ≤ 1099511627776) (hx : 0 ≤ x ∧ x ≤ 1099511627776) : 0 ≤ mostR T x ∧ mostR T x ≤ 1099511627776 := by
  rcases mostR_is T x with ⟨_, h⟩ | ⟨h, _⟩
  · rw [h]; exact hx
  · exact hT _ h

/-! ### the scan of a sorted list -/
/-- What stands behind a prefix P of a sorted list: best, most, count. -/
def Scan (P : List Int) (x b : Int) (m c : Nat) : Prop := (P = [] ∧ b = x ∧ m = 0 ∧ c = 0) ∨ (∃ y, P.getLast? = some y ∧ c = P.count y ∧ b ∈ P ∧ m = P.count b ∧ ∀ a ∈ P, P.count a < m ∨ (P.count a = m ∧ b ≤ a))
theorem Scan.is {P : List Int} {x b : Int} {m c : Nat} (h : Scan P x b m c) : IsMost P x b := by
  rcases h with ⟨h1, h2, _, _⟩ | ⟨y, _, _, h3, h4, h5⟩
  · exact .inl ⟨h1, h2⟩
  · right
    refine ⟨h3, fun a ha => ?_⟩
    rw [← h4]
    exact h5 a ha
theorem count_snoc (P : List Int) (a b : Int) : (P ++ [a]).count b = P.count b + if a = b then 1 else 0 := by
  rw [List.count_append, List.count_singleton]
  simp
theorem last_count {P : List Int} {y a : Int} (hs : (P ++ [a]).Pairwise (· ≤ ·)) (hl : P.getLast? = some y) (hne : y ≠ a) : P.count a = 0 := by
  rw [List.count_eq_zero]
  intro hm
  have hs' := List.pairwise_append.1 hs
  have h1 : y ∈ P := List.mem_of_getLast? hl
  have h2 := hs'.2.2 y h1 a (by simp)
  obtain ⟨Q, rfl⟩ : ∃ Q, P = Q ++ [y] := by
    obtain ⟨Q, hQ⟩ := List.getLast?_eq_some_iff.1 hl
    exact ⟨Q, hQ⟩
  rcases List.mem_append.1 hm with hm | hm
  · have h3 := (List.pairwise_append.1 hs'.1).2.2 a hm y (by simp)
    omega
  · simp at hm
    omega
/-- One more element; 'same': it is the last one again. -/
theorem Scan.step {P : List Int} {x b a : Int} {m c : Nat} (h : Scan P x b m c) (hs : (P ++ [a]).Pairwise (· ≤ ·)) (same : Bool) (hsame : same = true → P.getLast? = some a) (hdiff : same = false → P.getLast? ≠ some a) :
    Scan (P ++ [a]) x (if m < (if same then c else 0) + 1 then a else b) (if m < (if same then c else 0) + 1 then (if same then c else 0) + 1 else m) ((if same then c else 0) + 1) := by
  have hcnt : (if same then c else 0) = P.count a := by
    rcases h with ⟨rfl, _, _, rfl⟩ | ⟨y, h1, h2, _, _, _⟩
    · simp
    · cases hsm : same with
      | true => have := hsame hsm; rw [h1] at this; injection this with this; subst this; simpa using h2
      | false =>
        have := hdiff hsm
        rw [h1] at this
        rw [last_count hs h1 (fun e => this (by rw [e]))]
        rfl
  rw [hcnt]
  clear hcnt hsame hdiff
  right
  refine ⟨a, by simp, by rw [count_snoc]; simp, ?_⟩
  have hle : ∀ q ∈ P, q ≤ a := fun q hq => (List.pairwise_append.1 hs).2.2 q hq a (by simp)
  by_cases hc : m < P.count a + 1
  · rw [if_pos hc, if_pos hc]
    refine ⟨by simp, by rw [count_snoc]; simp, fun q hq => ?_⟩
    rw [count_snoc]
    rcases List.mem_append.1 hq with hq | hq
    · split
      · rename_i e; subst e; right; exact ⟨rfl, by omega⟩
      · rename_i e
        rcases h with ⟨rfl, _, _, _⟩ | ⟨y, _, _, _, _, h5⟩
        · simp at hq
        · have := h5 q hq
          left
          omega
    · rw [List.mem_singleton.1 hq]
      simp
  · rw [if_neg hc, if_neg hc]
    rcases h with ⟨rfl, _, rfl, _⟩ | ⟨y, _, _, h3, h4, h5⟩
    · simp at hc
    · have hba : a ≠ b := fun e => by subst e; omega
      refine ⟨List.mem_append_left _ h3, by rw [count_snoc, if_neg hba]; omega, fun q hq => ?_⟩
      rw [count_snoc]
      have hqa : ∀ (_ : a = q), P.count q + 1 < m ∨ (P.count q + 1 = m ∧ b ≤ q) := fun e => by
        subst e
        have := hle b h3
        omega
      split
      · rename_i e; exact hqa e
      · rename_i e
        rcases List.mem_append.1 hq with hq | hq
        · have := h5 q hq; omega
        · exact absurd (List.mem_singleton.1 hq).symm e
theorem Scan.most {S T : List Int} {x b : Int} {m c : Nat} (h : Scan S x b m c) (p : T.Perm S) : b = mostR T x := (h.is.perm p.symm).uniq (mostR_is T x)
theorem Scan.le {P : List Int} {x b : Int} {m c : Nat} (h : Scan P x b m c) : m ≤ P.length ∧ c ≤ P.length := by
  rcases h with ⟨rfl, _, rfl, rfl⟩ | ⟨y, _, h2, _, h4, _⟩
  · simp
  · rw [h2, h4]
    exact ⟨List.count_le_length, List.count_le_length⟩
end Go.Proofs.YtlhcobkncceodaaGreatDoor
namespace Go.Proofs.YtlhcobkncceodaaGreatDoor
open Go.RowKit

def VE.cells (e : VE) : List Value := [.bool e.i, .bool e.o, .int .i64 e.w, .int .i64 e.v]
theorem VE.cells_len (e : VE) : e.cells.length = 4 := rfl
theorem VE.cells_one (e : VE) : ∀ u ∈ e.cells, u.oneCell' = true := by
  intro u hu
  simp [VE.cells] at hu
  rcases hu with rfl | rfl | rfl | rfl <;> rfl
/-- A slice of shard edges in memory. -/
structure SlV (w : World) (A : Option Addr) (n : Nat) (es : List VE) : Prop where
  len : es.length = n
  row : Row w 4 A n (es.flatMap VE.cells)
section
variable {w w' : World} {n c lo e : Nat} {A : Option Addr} {es : List VE}
theorem SlV.keep (h : SlV w A n es) (hs : w.heap.size ≤ w'.heap.size) (hk : ∀ i, i < w.heap.size → w'.heap[i]? = w.heap[i]?) : SlV w' A n es := ⟨h.len, h.row.keep hs hk⟩
theorem SlV.below (h : SlV w A n es) (hb : Below w.heap.size w w') : SlV w' A n es := h.keep hb.size hb.block
theorem SlV.drewN (h : SlV w A n es) (m : Nat) : SlV (w.drewN m) A n es := ⟨h.len, h.row.drewN m⟩
theorem SlV.nil : SlV w A 0 [] := ⟨rfl, Row.nil⟩
/-- The view at place j, its four cells. -/
theorem SlV.at_ {j : Nat} (h : SlV w A n es) (hj : j < n) : ∃ (b off : Nat) (e : VE), A = some ⟨b, off, none⟩ ∧ b < w.heap.size ∧ Hid (es[j]? = some e) ∧
    w.cell? ⟨b, off + j * 4, none⟩ = some (.bool e.i) ∧ w.cell? ⟨b, off + j * 4 + 1, none⟩ = some (.bool e.o) ∧ w.cell? ⟨b, off + j * 4 + 2, none⟩ = some (.int .i64 e.w) ∧ w.cell? ⟨b, off + j * 4 + 3, none⟩ = some (.int .i64 e.v) := by
  obtain ⟨b, off, rfl, hb, hc⟩ := h.row.lies (by omega)
  have hl : j < es.length := by have := h.len; omega
  have he : es[j]? = some es[j] := List.getElem?_eq_getElem hl
  refine ⟨b, off, es[j], rfl, hb, he, ?_, ?_, ?_, ?_⟩
  · exact hc (j * 4) _ (flat_get VE.cells 4 VE.cells_len es j 0 _ he (by omega))
  · exact hc (j * 4 + 1) _ (flat_get VE.cells 4 VE.cells_len es j 1 _ he (by omega))
  · exact hc (j * 4 + 2) _ (flat_get VE.cells 4 VE.cells_len es j 2 _ he (by omega))
  · exact hc (j * 4 + 3) _ (flat_get VE.cells 4 VE.cells_len es j 3 _ he (by omega))
theorem SlV.of_own (h : w.ownsRow lo e 4 (.slice A n c) n (es.flatMap VE.cells)) (hl : es.length = n) : SlV w A n es := ⟨hl, Row.of_own h⟩
end
end Go.Proofs.YtlhcobkncceodaaGreatDoor
namespace Go.Proofs.YtlhcobkncceodaaGreatDoor
open Go.RowKit

theorem Tryz.infoView : (Tryz.prog.info? 93).map (fun i => (i.zero, i.size, i.bytes)) = some (some (.agg #[.bool false, .bool false, .int .i64 0, .int .i64 0]), 4, 24) := by kernel_rfl

end Go.Proofs.YtlhcobkncceodaaGreatDoor
namespace Go.Proofs.YtlhcobkncceodaaGreatDoor
open Go.RowKit

def JobResN (m : Nat) (w : World) (g : Nat) (A : Option Addr) (n c : Nat) (xs : List Nat) (e : Ending) (w' : World) : Prop :=
  ∃ p s : Int, jobB (m : Int) p s = true ∧ e = .returned (.agg #[.int .i64 p, .int .i64 s]) ∧ Cur w' g A n c xs ∧ w.grownBy w' (some g)
set_option maxRecDepth 10000 in
set_option maxHeartbeats 4000000 in
theorem drawJobN (m : Nat) (hm0 : 0 < m) (hm : m ≤ 256) (g : Nat) (A : Option Addr) (n c : Nat) (xs : List Nat) (w : World) (hcur : Cur w g A n c xs) (hg : g < w.heap.size) (hA : 0 < n → ∀ b off sp, A = some ⟨b, off, sp⟩ → b < w.heap.size) :
    Calls Tryz.prog 81 #[.pointer (some ⟨g, 0, none⟩), .int .i64 (m : Int)] w (JobResN m w g A n c xs) := by
  have CB := Lib.hid (fun m W (hc : Cur W g A n c xs) (h0 : 0 < m) (hm : m ≤ 256) => drawBelow g A n c m xs W hc h0 hm)
  have hb0 := below_a1 w (.cells #[.int .i64 0, .int .i64 0] 27)
  have H0 := Lib.hid (hcur.grow hb0)
  have R0 := Lib.hid (Blk.new w #[.int .i64 0, .int .i64 0] 27)
  have G0 := Lib.hid (grownBy_of_below hb0 (some g))
  have hgs := hg
  have HA := Lib.hid hA
  clear hcur hb0 hA
  go_enter Tryz.func81, Tryz.ntmps81
  go_wp2_with fail
  refine (CB.out 4 _ H0.out (by omega) (by omega)).mono ?_
  rintro e w1 ⟨k1, hk1, rfl, hcu, hgr⟩
  have H1 := Lib.hid hcu
  have R1 := Lib.hid (blk_drawn R0.out hgr hgs)
  have G1 := Lib.hid (grownBy_trans G0.out hgr)
  have hs1 := hgr.size
  have hr1 := R1.out.lt
  clear hcu hgr H0 R0 G0
  obtain ⟨p, hp⟩ : ∃ p : Int, (1 : Int) + (k1 : Int) = p := ⟨_, rfl⟩
  have hpw : IntKind.i64.wrap ((1 : Int) + (k1 : Int)) = p := by rw [← hp]; exact IntWalk.i64_in _ (by omega)
  have HP : Hid (1 ≤ p ∧ p ≤ 4) := Lib.hid (by omega)
  have H2 := Lib.hid (H1.out.grow (below_a1 w1 (.cells #[.int .i64 p, .int .i64 0] 27)))
  have R2 := Lib.hid (R1.out.alloc (.cells #[.int .i64 p, .int .i64 0] 27))
  have G2 := Lib.hid (grownBy_trans G1.out (grownBy_of_below (below_a1 w1 (.cells #[.int .i64 p, .int .i64 0] 27)) (some g)))
  have B2 := Lib.hid (Blk.new w1 #[.int .i64 p, .int .i64 0] 27)
  have hlt : w.heap.size < w1.heap.size := R1.out.lt
  skip
  have hmz : (0 : Int) < (m : Int) := by omega
  by_cases h3 : p = 3
  · subst h3
    go_wp2_with fail
    refine (CB.out m _ H2.out hm0 hm).mono ?_
    rintro e w3 ⟨k2, hk2, rfl, hcu, hgr⟩
    have H3 := Lib.hid hcu
    have R3 := Lib.hid (blk_drawn R2.out hgr hgs)
    have G3 := Lib.hid (grownBy_trans G2.out hgr)
    have B3 := Lib.hid (blk_drawn B2.out hgr (by omega))
    clear hcu hgr H2 R2 G2 B2
    have by0 := B3.out.cell (i := 0) rfl
    have fy0 := B3.out.frozen 0
    have by1 := B3.out.cell (i := 1) rfl
    have fy1 := B3.out.frozen 1
    have H4 := Lib.hid (H3.out.put hgs (Nat.le_of_lt hlt) HA.out 1 (.int .i64 (k2 : Int)))
    have R4 := Lib.hid (R3.out.other (p := ⟨w1.heap.size, 1, none⟩) (by show w.heap.size ≠ w1.heap.size; omega) (.int .i64 (k2 : Int)))
    have G4 := Lib.hid (grown_put G3.out (Nat.le_of_lt hlt) 1 (.int .i64 (k2 : Int)))
    have B4 := Lib.hid (B3.out.set 1 (.int .i64 (k2 : Int)))
    clear H3 R3 G3 B3
    have bz0 := B4.out.cell (i := 0) rfl
    have fz0 := B4.out.frozen 0
    have bz1 := B4.out.cell (i := 1) rfl
    have fz1 := B4.out.frozen 1
    have r0 := R4.out.cell (i := 0) rfl
    have e0 := R4.out.frozen 0
    have r1 := R4.out.cell (i := 1) rfl
    have e1 := R4.out.frozen 1
    have hR := ((R4.out.set 0 (.int .i64 3)).set 1 (.int .i64 (k2 : Int)))
    have q0 := hR.cell (i := 0) rfl
    have q1 := hR.cell (i := 1) rfl
    go_wp2
    refine bodyPost_ret (v := .agg #[.int .i64 3, .int .i64 (k2 : Int)]) (by simp [results, Tryz.results81, go_sem, q0, q1]) rfl ?_
    exact ⟨3, (k2 : Int), by unfold jobB progB; simp; omega, rfl, ((H4.out.put hgs (Nat.le_refl _) HA.out 0 _).put hgs (Nat.le_refl _) HA.out 1 _), (grown_put (grown_put G4.out (Nat.le_refl _) 0 _) (Nat.le_refl _) 1 _)⟩
  · have hne : (p == 3) = false := by simp [h3]
    have r0 := R1.out.cell (i := 0) rfl
    have e0 := R1.out.frozen 0
    have r1 := R1.out.cell (i := 1) rfl
    have e1 := R1.out.frozen 1
    have hnw : w.heap.size ≠ w1.heap.size := by omega
    have hR := ((R1.out.set 0 (.int .i64 p)).set 1 (.int .i64 0)).alloc (.cells #[.int .i64 p, .int .i64 0] 27)
    have q0 := hR.cell (i := 0) rfl
    have q1 := hR.cell (i := 1) rfl
    go_wp2
    refine bodyPost_ret (v := .agg #[.int .i64 p, .int .i64 0]) (by simp [results, Tryz.results81, go_sem, q0, q1]) rfl ?_
    exact ⟨p, 0, by have := HP.out; unfold jobB progB; simp [h3]; omega, rfl, ((H1.out.put hgs (Nat.le_refl _) HA.out 0 _).put hgs (Nat.le_refl _) HA.out 1 _).grow (below_a1 _ _), grownBy_trans (grown_put (grown_put G1.out (Nat.le_refl _) 0 _) (Nat.le_refl _) 1 _) (grownBy_of_below (below_a1 _ _) (some g))⟩
end Go.Proofs.YtlhcobkncceodaaGreatDoor
namespace Go.Proofs.YtlhcobkncceodaaGreatDoor
open Go.RowKit
set_option linter.unusedVariables false

/-- Vertex v is a member. -/
def bitN (xs : List Nat) (v : Nat) : Bool := (xs.getD (v / 8) 0).testBit (v % 8)
def bytesN (n : Nat) : Nat := (n + 7) / 8
/-- A valid set. -/
def setB (N : Int) (xs : List Nat) : Bool := decide (0 ≤ N ∧ N ≤ 150 ∧ xs.length = bytesN N.toNat) && (List.range (8 * xs.length)).all fun v => decide (v < N.toNat) || !bitN xs v
theorem bitN_far {xs : List Nat} {v : Nat} (h : 8 * xs.length ≤ v) : bitN xs v = false := by
  unfold bitN
  rw [List.getD_eq_getElem?_getD, List.getElem?_eq_none (by omega)]
  simp
theorem setB_iff {N : Int} {xs : List Nat} : setB N xs = true ↔ (0 ≤ N ∧ N ≤ 150 ∧ xs.length = bytesN N.toNat) ∧ ∀ v, N.toNat ≤ v → bitN xs v = false := by
  unfold setB
  rw [Bool.and_eq_true, decide_eq_true_iff, List.all_eq_true]
  constructor
  · rintro ⟨h1, h2⟩
    refine ⟨h1, fun v hv => ?_⟩
    rcases Nat.lt_or_ge v (8 * xs.length) with h | h
    · have := h2 v (List.mem_range.2 h)
      rw [Bool.or_eq_true, decide_eq_true_iff] at this
      rcases this with h3 | h3
      · omega
      · simpa using h3
    · exact bitN_far h
  · rintro ⟨h1, h2⟩
    refine ⟨h1, fun v _ => ?_⟩
    rw [Bool.or_eq_true, decide_eq_true_iff]
    rcases Nat.lt_or_ge v N.toNat with h | h
    · exact .inl h
    · exact .inr (by rw [h2 v h]; rfl)
theorem setB_dim {N : Int} {xs : List Nat} (h : setB N xs = true) : 0 ≤ N ∧ N ≤ 150 ∧ xs.length = bytesN N.toNat := (setB_iff.1 h).1

/-! ### one byte -/
theorem byteBit (x k : Nat) : x.testBit k = decide (x / 2 ^ k % 2 = 1) := Nat.testBit_eq_decide_div_mod_eq
theorem pow8 {k : Nat} (h : k < 8) : 2 ^ k < 256 ∧ 0 < 2 ^ k := by
  have : 2 ^ k < 2 ^ 8 := Nat.pow_lt_pow_right (by omega) h
  exact ⟨this, Nat.pos_of_ne_zero (by simp)⟩
def onN (x k : Nat) : Nat := x ||| 2 ^ k
def offN (x k : Nat) : Nat := x &&& (255 - 2 ^ k)
theorem on_lt {x k : Nat} (hx : x < 256) (hk : k < 8) : onN x k < 256 := Nat.or_lt_two_pow (n := 8) hx (pow8 hk).1
theorem on_bit (x k j : Nat) : (onN x k).testBit j = (decide (j = k) || x.testBit j) := by
  unfold onN
  rw [Nat.testBit_or, Nat.testBit_two_pow, Bool.or_comm]
  congr 1
  simp [eq_comm]
theorem add_all : ∀ (x : Fin 256) (k : Fin 8), (x.val / 2 ^ k.val % 2 = 1 → x.val ||| 2 ^ k.val = x.val ∧ x.val &&& (255 - 2 ^ k.val) = x.val - 2 ^ k.val ∧ 2 ^ k.val ≤ x.val) ∧ (x.val / 2 ^ k.val % 2 ≠ 1 → x.val ||| 2 ^ k.val = x.val + 2 ^ k.val ∧ x.val + 2 ^ k.val < 256 ∧ x.val &&& (255 - 2 ^ k.val) = x.val) := by decide +kernel
theorem on_yes {x k : Nat} (hx : x < 256) (hk : k < 8) (h : x.testBit k = true) : onN x k = x ∧ offN x k = x - 2 ^ k ∧ 2 ^ k ≤ x := by
  rw [byteBit, decide_eq_true_iff] at h
  exact (add_all ⟨x, hx⟩ ⟨k, hk⟩).1 h
theorem on_no {x k : Nat} (hx : x < 256) (hk : k < 8) (h : x.testBit k = false) : onN x k = x + 2 ^ k ∧ x + 2 ^ k < 256 ∧ offN x k = x := by
  rw [byteBit, decide_eq_false_iff_not] at h
  exact (add_all ⟨x, hx⟩ ⟨k, hk⟩).2 h

/-! ### what the byte's operations give -/
theorem and8_all : ∀ (x : Fin 256) (k : Fin 8), bits .and .u8 (x.val : Int) ((2 ^ k.val : Nat) : Int) = ((if x.val / 2 ^ k.val % 2 = 1 then 2 ^ k.val else 0 : Nat) : Int) := by decide +kernel
theorem or8_all : ∀ (x : Fin 256) (k : Fin 8), bits .or .u8 (x.val : Int) ((2 ^ k.val : Nat) : Int) = ((x.val ||| 2 ^ k.val : Nat) : Int) := by decide +kernel
theorem and8 {x k : Nat} (hx : x < 256) (hk : k < 8) : bits .and .u8 (x : Int) ((2 ^ k : Nat) : Int) = ((if x.testBit k then 2 ^ k else 0 : Nat) : Int) := by
  rw [and8_all ⟨x, hx⟩ ⟨k, hk⟩, byteBit]
  simp only [decide_eq_true_eq]
theorem or8 {x k : Nat} (hx : x < 256) (hk : k < 8) : bits .or .u8 (x : Int) ((2 ^ k : Nat) : Int) = ((onN x k : Nat) : Int) := or8_all ⟨x, hx⟩ ⟨k, hk⟩
/-! ### a vertex put in, a vertex taken out -/
def addV (xs : List Nat) (v : Nat) : List Nat := xs.set (v / 8) (onN (xs.getD (v / 8) 0) (v % 8))
theorem addV_len (xs : List Nat) (v : Nat) : (addV xs v).length = xs.length := by simp [addV]
theorem getD_lt {xs : List Nat} (hs : ∀ x ∈ xs, x < 256) (i : Nat) : xs.getD i 0 < 256 := by
  rw [List.getD_eq_getElem?_getD]
  rcases Nat.lt_or_ge i xs.length with h | h
  · rw [List.getElem?_eq_getElem h]
    exact hs _ (List.getElem_mem h)
  · rw [List.getElem?_eq_none h]
    exact Nat.zero_lt_succ _
theorem set_small {xs : List Nat} (hs : ∀ x ∈ xs, x < 256) (i : Nat) {y : Nat} (hy : y < 256) : ∀ x ∈ xs.set i y, x < 256 := fun x hx => by
  rcases List.mem_or_eq_of_mem_set hx with h | rfl
  · exact hs x h
  · exact hy
theorem addV_small {xs : List Nat} (hs : ∀ x ∈ xs, x < 256) (v : Nat) : ∀ x ∈ addV xs v, x < 256 := set_small hs _ (on_lt (getD_lt hs _) (by omega))
theorem getD_set (xs : List Nat) (i j y : Nat) (hi : i < xs.length) : (xs.set i y).getD j 0 = if j = i then y else xs.getD j 0 := by
  rw [List.getD_eq_getElem?_getD, List.getD_eq_getElem?_getD, List.getElem?_set]
  by_cases h : i = j
  · subst h
    rw [if_pos rfl, if_pos hi, if_pos rfl]
    rfl
  · rw [if_neg h, if_neg (fun e => h e.symm)]
theorem bit_place {u v : Nat} : u / 8 = v / 8 → (u % 8 = v % 8 ↔ u = v) := fun h => ⟨fun k => by omega, fun k => by rw [k]⟩
theorem bit_addV {xs : List Nat} {v : Nat} (hv : v / 8 < xs.length) (u : Nat) : bitN (addV xs v) u = (decide (u = v) || bitN xs u) := by
  unfold bitN addV
  rw [getD_set _ _ _ _ hv]
  by_cases h : u / 8 = v / 8
  · rw [if_pos h, on_bit, h]
    congr 1
    simp only [decide_eq_decide]
    exact bit_place h
  · rw [if_neg h, show decide (u = v) = false by simp only [decide_eq_false_iff_not]; intro e; exact h (by rw [e]), Bool.false_or]
theorem lt_bytes {n v : Nat} (h : v < n) : v / 8 < bytesN n := by unfold bytesN; omega
theorem setB_add {N : Int} {xs : List Nat} {v : Nat} (h : setB N xs = true) (hv : v < N.toNat) : setB N (addV xs v) = true := by
  obtain ⟨⟨h1, h2, h3⟩, h4⟩ := setB_iff.1 h
  refine setB_iff.2 ⟨⟨h1, h2, by rw [addV_len]; exact h3⟩, fun u hu => ?_⟩
  rw [bit_addV (by rw [h3]; exact lt_bytes hv), h4 u hu, show decide (u = v) = false by simp only [decide_eq_false_iff_not]; omega]
  rfl
/-- What With answers: the number and the bytes. -/
def withN (N : Int) (xs : List Nat) : Int := if setB N xs then N else 0
def withX (N : Int) (xs : List Nat) (v : Int) : List Nat := if setB N xs then (if 0 ≤ v ∧ v < N then addV xs v.toNat else xs) else []
theorem withX_small {N : Int} {xs : List Nat} (hs : ∀ x ∈ xs, x < 256) (v : Int) : ∀ x ∈ withX N xs v, x < 256 := by
  unfold withX
  split
  · split
    · exact addV_small hs _
    · exact hs
  · simp
/-- What Has answers. -/
def hasB (N : Int) (xs : List Nat) (v : Int) : Bool := setB N xs && (decide (0 ≤ v) && (decide (v < N) && bitN xs v.toNat))
/-- The members. -/
def memsR (xs : List Nat) (k : Nat) : List Int := ((List.range k).filter (bitN xs)).map fun v : Nat => (v : Int)
def memsB (N : Int) (xs : List Nat) : List Int := if setB N xs then memsR xs N.toNat else []
theorem mems_step (xs : List Nat) (k : Nat) : memsR xs (k + 1) = if bitN xs k then memsR xs k ++ [(k : Int)] else memsR xs k := by
  unfold memsR
  rw [List.range_succ, List.filter_append, List.map_append]
  cases h : bitN xs k with
  | true => rw [if_pos rfl]; simp [List.filter, h]
  | false => simp [List.filter, h]
theorem mems_len (xs : List Nat) (k : Nat) : (memsR xs k).length ≤ k := by
  unfold memsR
  rw [List.length_map]
  exact Nat.le_trans (List.length_filter_le _ _) (by rw [List.length_range]; exact Nat.le_refl _)
theorem memsB_len (N : Int) (xs : List Nat) : (memsB N xs).length ≤ 150 := by
  unfold memsB
  split
  · rename_i h
    have h1 := setB_dim h
    have h2 := mems_len xs N.toNat
    omega
  · simp
/-- All vertices below k put in. -/
def fillV (n k : Nat) : List Nat := (List.range k).foldl addV (List.replicate n 0)
theorem fill_step (n k : Nat) : fillV n (k + 1) = addV (fillV n k) k := by unfold fillV; rw [List.range_succ, List.foldl_append]; rfl
theorem fill_len (n k : Nat) : (fillV n k).length = n := by
  induction k with
  | zero => simp [fillV]
  | succ k ih => rw [fill_step, addV_len, ih]
theorem fill_small (n k : Nat) : ∀ x ∈ fillV n k, x < 256 := by
  induction k with
  | zero => intro x hx; simp [fillV, List.mem_replicate] at hx; omega
  | succ k ih => rw [fill_step]; exact addV_small ih _
theorem bit_empty (n v : Nat) : bitN (List.replicate n 0) v = false := by
  unfold bitN
  rw [List.getD_eq_getElem?_getD, List.getElem?_replicate]
  split <;> simp
theorem setB_empty {n : Nat} (h : n ≤ 150) : setB (n : Int) (List.replicate (bytesN n) 0) = true :=
  setB_iff.2 ⟨⟨by omega, by omega, by simp⟩, fun v _ => bit_empty _ v⟩
theorem setB_fill {n k : Nat} (h : n ≤ 150) (hk : k ≤ n) : setB (n : Int) (fillV (bytesN n) k) = true := by
  induction k with
  | zero => exact setB_empty h
  | succ k ih => rw [fill_step]; exact setB_add (ih (by omega)) (show k < Int.toNat (n : Int) by rw [Int.toNat_natCast]; omega)
/-- What SetNew answers. -/
def newB (N : Int) : Bool := decide (0 ≤ N ∧ N ≤ 150)
def newN (N : Int) : Int := if newB N then N else 0
def newX (N : Int) (all : Bool) : List Nat := if newB N then fillV (bytesN N.toNat) (if all then N.toNat else 0) else []
theorem newX_small (N : Int) (all : Bool) : ∀ x ∈ newX N all, x < 256 := by
  unfold newX
  split
  · exact fill_small _ _
  · simp
end Go.Proofs.YtlhcobkncceodaaGreatDoor
