/- Graphs: valid ones as data, and the contracts of the model's and the program's functions that ask it. Condition: at most 2^20 edges. // Edges, graphs and numbers: the contracts of the laws' helpers that compare and that leave marks. Condition: at most 2^21 of each. // Degrees as data, and a row of numbers that is counted in (no condition). // Farms in memory: rows of the call's own, with the range that their blocks lie in; such as read (plain lemmas over the model; no condition). // Edges, graphs and numbers: the contracts of the laws' helpers that measure and copy. Condition: at most 2^21 of each. // The laws' helper that measures a list of numbers. Condition: what is left is at most 2^20. // Parted from YtpgnappddddlpaaGrEq: the contracts of the functions that only their own laws reach. // Words for data with depth (plain lemmas over the model; no condition): 'RdR lo hi w s cs d': the cells cs read in w as the datum d of the shape s, and every row that is looked into lies in a block from lo on and below hi; such a reading is kept where these blocks are. -/
import Derived.Test.YtpgnappddddlpaaCOB
import Derived.Test.YtpgnappddddlpaaCOQ
import Derived.Test.YtpgnappddddlpaaCOA
import Derived.WalkKit
import Derived.Below
import Derived.Laws.Rows
import Derived.Laws.OwnMore
import Derived.Deep.Draws
import Derived.Lib.Hide
import Derived.ChangeArms
import Derived.DataReads
namespace Go.Proofs.Ytpgnappddddlpaa
open Go.RowKit

def edgeB (n : Int) (e : GE) : Bool := decide (0 ≤ e.f ∧ e.f < n ∧ 0 ≤ e.t ∧ e.t < n ∧ 0 ≤ e.w ∧ e.w ≤ 1000)
def graphB (n : Int) (es : List GE) : Bool := decide (0 ≤ n ∧ n ≤ 150 ∧ es.length ≤ 400) && es.all (edgeB n)
theorem edgeB_iff {n : Int} {e : GE} (h : edgeB n e = true) : 0 ≤ e.f ∧ e.f < n ∧ 0 ≤ e.t ∧ e.t < n ∧ 0 ≤ e.w ∧ e.w ≤ 1000 := of_decide_eq_true h
theorem graphB_iff {n : Int} {es : List GE} (h : graphB n es = true) : 0 ≤ n ∧ n ≤ 150 ∧ es.length ≤ 400 ∧ ∀ e ∈ es, edgeB n e = true := by
  unfold graphB at h
  rw [Bool.and_eq_true, decide_eq_true_iff, List.all_eq_true] at h
  exact ⟨h.1.1, h.1.2.1, h.1.2.2, h.2⟩
theorem graphB_no {n : Int} {es : List GE} {k : Nat} {e : GE} (h : es[k]? = some e) (he : edgeB n e = false) : graphB n es = false := by
  cases hh : graphB n es with
  | false => rfl
  | true =>
    have := (graphB_iff hh).2.2.2 e (List.mem_of_getElem? h)
    rw [he] at this
    cases this
theorem all_step {n : Int} {es : List GE} {k : Nat} {e : GE} (h : es[k]? = some e) (ha : ∀ x ∈ es.take k, edgeB n x = true) (he : edgeB n e = true) : ∀ x ∈ es.take (k + 1), edgeB n x = true := by
  rw [g_take es k e h]
  intro x hx
  rcases List.mem_append.1 hx with hx | hx
  · exact ha x hx
  · rw [List.mem_singleton.1 hx]; exact he

/-- Cells of a block that hold an edge. -/
structure EBox (w : World) (b : Nat) (e : GE) : Prop where
  lt : b < w.heap.size
  c0 : w.cell? ⟨b, 0, none⟩ = some (.int .i64 e.f)
  c1 : w.cell? ⟨b, 1, none⟩ = some (.int .i64 e.t)
  c2 : w.cell? ⟨b, 2, none⟩ = some (.int .i64 e.w)
/-- A block that holds a graph. -/
structure NBox (w : World) (b : Nat) (N : Int) (A : Option Addr) (n c : Nat) : Prop where
  lt : b < w.heap.size
  c0 : w.cell? ⟨b, 0, none⟩ = some (.int .i64 N)
  c1 : w.cell? ⟨b, 1, none⟩ = some (.slice A n c)
section
variable {w w' : World} {b n c : Nat} {N : Int} {A : Option Addr} {e : GE}
theorem NBox.keep (h : NBox w b N A n c) (hs : w.heap.size ≤ w'.heap.size) (hk : w'.heap[b]? = w.heap[b]?) : NBox w' b N A n c :=
  ⟨Nat.lt_of_lt_of_le h.lt hs, (World.cell?_of_block (a := ⟨b, 0, none⟩) hk).trans h.c0, (World.cell?_of_block (a := ⟨b, 1, none⟩) hk).trans h.c1⟩
theorem NBox.below (h : NBox w b N A n c) (hb : Below w.heap.size w w') : NBox w' b N A n c := h.keep hb.size (hb.block b h.lt)
theorem NBox.new (w : World) (N : Int) (A : Option Addr) (n c : Nat) (t : TypeId) : NBox (w.alloc (.cells #[.int .i64 N, .slice A n c] t)) w.heap.size N A n c := ⟨by simp, by simp, by simp⟩
theorem NBox.alloc (h : NBox w b N A n c) (o : Obj) : NBox (w.alloc o) b N A n c := h.below (below_a1 w o)
end

set_option maxRecDepth 10000 in
set_option maxHeartbeats 1000000 in
theorem implEdgeOk (e : GE) (N : Int) (w : World) :
    Calls Try.prog 121 #[.agg #[.int .i64 e.f, .int .i64 e.t, .int .i64 e.w], .int .i64 N] w (GTell w (edgeB N e)) := by
  obtain ⟨f, t, x⟩ := e
  by_cases h1 : 0 ≤ f
  · by_cases h2 : f < N
    · by_cases h3 : 0 ≤ t
      · by_cases h4 : t < N
        · by_cases h5 : 0 ≤ x
          · by_cases h6 : x ≤ 1000
            · have HV : Hid (edgeB N ⟨f, t, x⟩ = true) := Lib.hid (by simp [edgeB, h1, h2, h3, h4, h5, h6])
              go_enter Try.func121, Try.ntmps121
              go_wp2
              go_ret
              rw [HV.out]
              exact ⟨g_bool (by simp <;> omega), below_a1 _ _⟩
            · have HV : Hid (edgeB N ⟨f, t, x⟩ = false) := Lib.hid (by simp [edgeB, h6])
              go_enter Try.func121, Try.ntmps121
              go_wp2
              go_ret
              rw [HV.out]
              exact ⟨g_bool (by first | rfl | (simp <;> omega)), below_a1 _ _⟩
          · have HV : Hid (edgeB N ⟨f, t, x⟩ = false) := Lib.hid (by simp [edgeB, h5])
            go_enter Try.func121, Try.ntmps121
            go_wp2
            go_ret
            rw [HV.out]
            exact ⟨g_bool (by first | rfl | (simp <;> omega)), below_a1 _ _⟩
        · have HV : Hid (edgeB N ⟨f, t, x⟩ = false) := Lib.hid (by simp [edgeB, h4])
          go_enter Try.func121, Try.ntmps121
          go_wp2
          go_ret
          rw [HV.out]
          exact ⟨g_bool (by first | rfl | (simp <;> omega)), below_a1 _ _⟩
      · have HV : Hid (edgeB N ⟨f, t, x⟩ = false) := Lib.hid (by simp [edgeB, h3])
        go_enter Try.func121, Try.ntmps121
        go_wp2
        go_ret
        rw [HV.out]
        exact ⟨g_bool (by first | rfl | (simp <;> omega)), below_a1 _ _⟩
    · have HV : Hid (edgeB N ⟨f, t, x⟩ = false) := Lib.hid (by simp [edgeB, h2])
      go_enter Try.func121, Try.ntmps121
      go_wp2
      go_ret
      rw [HV.out]
      exact ⟨g_bool (by first | rfl | (simp <;> omega)), below_a1 _ _⟩
  · have HV : Hid (edgeB N ⟨f, t, x⟩ = false) := Lib.hid (by simp [edgeB, h1])
    go_enter Try.func121, Try.ntmps121
    go_wp2
    go_ret
    rw [HV.out]
    exact ⟨g_bool (by first | rfl | (simp <;> omega)), below_a1 _ _⟩

set_option maxRecDepth 10000 in
set_option maxHeartbeats 2000000 in
theorem implGraphOk (N : Int) (A : Option Addr) (n c : Nat) (es : List GE) (w : World) (hr : SlG w A n es) (hn : n ≤ 1048576) :
    Calls Try.prog 74 #[.agg #[.int .i64 N, .slice A n c]] w (GTell w (graphB N es)) := by
  have hel := hr.len
  by_cases h1 : 0 ≤ N
  · by_cases h2 : N ≤ 150
    · by_cases h3 : n ≤ 400
      · have CE := Lib.hid (fun e W => implEdgeOk e N W)
        have HR := Lib.hid hr
        have HG : Hid ((∀ x ∈ es, edgeB N x = true) → graphB N es = true) := Lib.hid (fun hh => by
          unfold graphB
          rw [Bool.and_eq_true, decide_eq_true_iff, List.all_eq_true]
          exact ⟨⟨h1, h2, by omega⟩, hh⟩)
        have HEL := Lib.hid hel
        clear hr hel
        go_enter Try.func74, Try.ntmps74
        go_wp2
        have X0 := Lib.hid (NBox.new w N A n c 58)
        have HB0 := Lib.hid (below_a1 w (.cells #[.int .i64 N, .slice A n c] 58))
        go_loopw [22] (fun i wr => ∃ k : Nat, k ≤ n ∧ i = .int .i64 k ∧ Hid (NBox wr w.heap.size N A n c) ∧ Hid (Below w.heap.size w wr) ∧ Hid (∀ x ∈ es.take k, edgeB N x = true)) (fun i _ => n - (intOf i).toNat)
        case atStart => exact ⟨0, Nat.zero_le _, rfl, X0, HB0, Lib.hid (by simp)⟩
        case round =>
          clear X0 HB0
          obtain ⟨k, hk, rfl, hx, hbel, hall⟩ := hrel
          by_cases hlt : k < n
          · obtain ⟨b, off, e, rfl, hbw, he, c0, c1, c2⟩ := HR.out.at_ hlt
            have c0 := (hbel.out.cell (p := ⟨b, off + k * 3, none⟩) hbw).trans c0
            have c1 := (hbel.out.cell (p := ⟨b, off + k * 3 + 1, none⟩) hbw).trans c1
            have c2 := (hbel.out.cell (p := ⟨b, off + k * 3 + 2, none⟩) hbw).trans c2
            obtain ⟨l0, x0, x1⟩ := hx.out
            have hwle : w.heap.size ≤ wr.heap.size := hbel.out.size
            go_wp2_with fail
            refine (CE.out e _).mono ?_
            rintro e1 w1 ⟨rfl, hb1⟩
            have HB1 := Lib.hid (g_chain (below_a1 wr (.cells #[.int .i64 e.f, .int .i64 e.t, .int .i64 e.w] 145)) hb1)
            have X1 := Lib.hid (hx.out.below HB1.out)
            clear hb1 c0 c1 c2 l0 x0 x1
            cases hv : edgeB N e with
            | true =>
              go_wp2
              go_roundw
              case rel => exact ⟨k + 1, by omega, by go_num, X1, Lib.hid (g_chain hbel.out HB1.out), Lib.hid (all_step he.out hall.out hv)⟩
              case measure => simp [intOf]; omega
            | false =>
              have HV := Lib.hid (graphB_no he.out hv)
              go_wp2
              go_ret
              rw [HV.out]
              exact ⟨rfl, g_chain hbel.out HB1.out⟩
          · obtain rfl : k = n := by omega
            have HV := Lib.hid (HG.out (fun x hx => hall.out x (by rw [List.take_of_length_le (by rw [HEL.out]; exact Nat.le_refl _)]; exact hx)))
            go_wp2
            go_ret
            rw [HV.out]
            exact ⟨rfl, hbel.out⟩
      · have HV : Hid (graphB N es = false) := Lib.hid (by simp [graphB, hel, h3])
        clear hr hel
        go_enter Try.func74, Try.ntmps74
        go_wp2
        go_ret
        rw [HV.out]
        exact ⟨g_bool (by first | rfl | (simp <;> omega)), below_a1 _ _⟩
    · have HV : Hid (graphB N es = false) := Lib.hid (by simp [graphB, h2])
      clear hr hel
      go_enter Try.func74, Try.ntmps74
      go_wp2
      go_ret
      rw [HV.out]
      exact ⟨g_bool (by first | rfl | (simp <;> omega)), below_a1 _ _⟩
  · have HV : Hid (graphB N es = false) := Lib.hid (by simp [graphB, h1])
    clear hr hel
    go_enter Try.func74, Try.ntmps74
    go_wp2
    go_ret
    rw [HV.out]
    exact ⟨g_bool (by first | rfl | (simp <;> omega)), below_a1 _ _⟩
end Go.Proofs.Ytpgnappddddlpaa
namespace Go.Proofs.Ytpgnappddddlpaa
open Go.RowKit

theorem eqEdge_any (e : GE) (w : World) :
    Calls Try.prog 127 #[.agg #[.int .i64 e.f, .int .i64 e.t, .int .i64 e.w], .agg #[.int .i64 e.f, .int .i64 e.t, .int .i64 e.w]] w (GTell w true) := by
  go_enter Try.func127, Try.ntmps127
  go_wp2
  go_ret
  exact ⟨rfl, below_a2 _ _ _⟩

set_option maxRecDepth 10000 in
set_option maxHeartbeats 1000000 in
theorem eqEdges_any (A B : Option Addr) (n c d : Nat) (es : List GE) (w : World) (ha : SlG w A n es) (hb : SlG w B n es) (hn : n ≤ 2097152) :
    Calls Try.prog 77 #[.slice A n c, .slice B n d] w (GTell w true) := by
  have HA := Lib.hid ha
  have HB := Lib.hid hb
  have CE := Lib.hid (fun e W => eqEdge_any e W)
  clear ha hb
  go_enter Try.func77, Try.ntmps77
  go_wp2
  go_loopw [5] (fun i wr => ∃ k : Nat, k ≤ n ∧ i = .int .i64 k ∧ Hid (Below w.heap.size w wr)) (fun i _ => n - (intOf i).toNat)
  case atStart => exact ⟨0, Nat.zero_le _, rfl, Lib.hid (Below.refl _ _)⟩
  case round =>
    obtain ⟨k, hk, rfl, hbel⟩ := hrel
    by_cases hlt : k < n
    · obtain ⟨b, off, e, rfl, hbw, he, c0, c1, c2⟩ := HA.out.at_ hlt
      obtain ⟨b', off', e', rfl, hbw', he', c0', c1', c2'⟩ := HB.out.at_ hlt
      have hee : e' = e := by have h1 := he.out; rw [he'.out] at h1; injection h1
      subst hee
      have c0 := (hbel.out.cell (p := ⟨b, off + k * 3, none⟩) hbw).trans c0
      have c1 := (hbel.out.cell (p := ⟨b, off + k * 3 + 1, none⟩) hbw).trans c1
      have c2 := (hbel.out.cell (p := ⟨b, off + k * 3 + 2, none⟩) hbw).trans c2
      have c0' := (hbel.out.cell (p := ⟨b', off' + k * 3, none⟩) hbw').trans c0'
      have c1' := (hbel.out.cell (p := ⟨b', off' + k * 3 + 1, none⟩) hbw').trans c1'
      have c2' := (hbel.out.cell (p := ⟨b', off' + k * 3 + 2, none⟩) hbw').trans c2'
      clear he he'
      go_wp2
      go_region_with (go_at_call 127; ((with_reducible refine (CE.out e' _).mono ?_)); rintro e1 w1 ⟨rfl, hb1⟩)
      all_goals
        go_wp2
        go_roundw
        case rel => exact ⟨k + 1, by omega, by go_num, Lib.hid (by first | exact g_chain hbel.out hb1 | exact g_chain hbel.out.drew hb1 | exact (g_chain hbel.out.drew hb1).drew)⟩
        case measure => simp [intOf]; omega
    · go_wp2
      go_ret
      exact ⟨rfl, hbel.out⟩
theorem eqGraph_any (N : Int) (A B : Option Addr) (n c d : Nat) (es : List GE) (w : World) (ha : SlG w A n es) (hb : SlG w B n es) (hn : n ≤ 2097152) :
    Calls Try.prog 30 #[.agg #[.int .i64 N, .slice A n c], .agg #[.int .i64 N, .slice B n d]] w (GTell w true) := by
  have CE := Lib.hid (fun W (h : Below w.heap.size w W) => eqEdges_any A B n c d es W (ha.below h) (hb.below h) hn)
  clear ha hb
  go_enter Try.func30, Try.ntmps30
  go_wp2_with fail
  refine (CE.out _ (below_a2 _ _ _)).mono ?_
  rintro e w1 ⟨rfl, hb1⟩
  go_wp2
  go_ret
  exact ⟨rfl, g_chain (below_a2 _ _ _) hb1⟩

def MarkedG (w : World) (lo k : Nat) (A : Option Addr) (n c : Nat) (es : List GE) (e : Ending) (w' : World) : Prop :=
  e = .returned (.int .i64 ((k + 3 * n : Nat) : Int)) ∧ w'.ownsRow lo 145 3 (.slice A n c) n ((markG k es).flatMap GE.cells) ∧ w.grownBy w' (Value.slice A n c).ownBlock

set_option maxRecDepth 10000 in
set_option maxHeartbeats 1000000 in
theorem markEdges_any (A : Option Addr) (n c lo k : Nat) (es : List GE) (w : World) (ho : w.ownsRow lo 145 3 (.slice A n c) n (es.flatMap GE.cells)) (hl : es.length = n) (hn : n ≤ 2097152) (hk : k ≤ 8388608) :
    Calls Try.prog 78 #[.slice A n c, .int .i64 (k : Int)] w (MarkedG w lo k A n c es) := by
  have HL := Lib.hid hl
  rcases Nat.eq_zero_or_pos n with rfl | hpos
  · obtain rfl : es = [] := List.eq_nil_of_length_eq_zero hl
    have HO := Lib.hid ho
    clear ho hl
    go_enter Try.func78, Try.ntmps78
    go_wp2
    go_loopw [1, 5] (fun q i wr => i = .int .i64 0 ∧ q = .int .i64 (k : Int) ∧ wr = w) (fun _ _ _ => 0)
    case atStart => exact ⟨rfl, rfl, rfl⟩
    case round =>
      obtain ⟨rfl, rfl, rfl⟩ := hrel
      go_wp2
      go_ret
      exact ⟨rfl, HO.out, World.grownBy.refl _ _⟩
  · obtain ⟨g, rfl⟩ := g_own_at ho hpos
    have HO : Hid (w.ownsRow lo 145 3 (.slice (some ⟨g, 0, none⟩) n c) n ((markG k (es.take 0) ++ es.drop 0).flatMap GE.cells)) := Lib.hid ho
    clear ho hl
    go_enter Try.func78, Try.ntmps78
    go_wp2
    go_loopw [1, 5] (fun q i wr => ∃ j : Nat, j ≤ n ∧ i = .int .i64 j ∧ q = .int .i64 ((k + 3 * j : Nat) : Int) ∧ Hid (wr.ownsRow lo 145 3 (.slice (some ⟨g, 0, none⟩) n c) n ((markG k (es.take j) ++ es.drop j).flatMap GE.cells)) ∧ Hid (w.grownBy wr (some g))) (fun _ i _ => n - (intOf i).toNat)
    case atStart => exact ⟨0, Nat.zero_le _, rfl, rfl, HO, Lib.hid (World.grownBy.refl _ _)⟩
    case round =>
      clear HO
      obtain ⟨j, hj, rfl, rfl, hown, hgr⟩ := hrel
      by_cases hlt : j < n
      · obtain ⟨e, he⟩ : ∃ e, es[j]? = some e := ⟨es[j]'(by rw [HL.out]; exact hlt), List.getElem?_eq_getElem _⟩
        have hmk : (markG k (es.take j)).length = j := by rw [markG_len, List.length_take, HL.out]; omega
        have hown2 := hown.out
        rw [g_drop es j e he] at hown2
        have hq := fun i (hi : i < 3) => (hown2.cellAt (j * 3 + i) (by omega)).trans (flat_get GE.cells 3 GE.cells_len _ j i e (g_get _ _ _ _ hmk) hi)
        have hc0 : wr.cell? ⟨g, j * 3, none⟩ = some (.int .i64 e.f) := hq 0 (by omega)
        have hc1 : wr.cell? ⟨g, j * 3 + 1, none⟩ = some (.int .i64 e.t) := hq 1 (by omega)
        have hc2 : wr.cell? ⟨g, j * 3 + 2, none⟩ = some (.int .i64 e.w) := hq 2 (by omega)
        have hf0 := hown2.frozenAt (j * 3)
        have hf1 := hown2.frozenAt (j * 3 + 1)
        have hf2 := hown2.frozenAt (j * 3 + 2)
        have HS := Lib.hid (g_lay (e := ⟨((k + 3 * j : Nat) : Int), ((k + 3 * j : Nat) : Int) + 1, ((k + 3 * j : Nat) : Int) + 2⟩) hown2 hmk)
        have hb1 : ((k + 3 * j : Nat) : Int) + 1 + 1 = ((k + 3 * j : Nat) : Int) + 2 := by omega
        have HE := Lib.hid he
        clear hown hown2 hq he hmk
        have hq0 : k + 3 * j ≤ 20000000 := by omega
        obtain ⟨q, hq⟩ : ∃ q, q = k + 3 * j := ⟨_, rfl⟩
        rw [← hq] at HS hb1 hq0
        have HQ := Lib.hid hq
        simp only [← hq]
        clear hq
        go_wp2
        go_roundw
        case rel =>
          refine ⟨j + 1, by omega, by go_num, ?_, Lib.hid ?_, Lib.hid (hgr.out.trans ?_)⟩
          · have := HQ.out
            exact congrArg (Value.int .i64) (by first | omega | (simp only [IntKind.wrap_i64]; omega))
          · have h := HS.out.1
            rw [g_take es j e HE.out, markG_snoc, List.length_take, HL.out, show min j n = j by omega, ← HQ.out, List.append_assoc]
            exact h
          · exact HS.out.2
        case measure => simp [intOf]; omega
      · obtain rfl : j = n := by omega
        go_wp2
        go_ret
        refine ⟨rfl, ?_, hgr.out⟩
        have h := hown.out
        rw [List.take_of_length_le (by rw [HL.out]; exact Nat.le_refl _), List.drop_eq_nil_of_le (by rw [HL.out]; exact Nat.le_refl _), List.append_nil] at h
        exact h
theorem markGraph_any (N : Int) (A : Option Addr) (n c lo k : Nat) (es : List GE) (w : World) (ho : w.ownsRow lo 145 3 (.slice A n c) n (es.flatMap GE.cells)) (hl : es.length = n) (hn : n ≤ 2097152) (hk : k ≤ 8388608) :
    Calls Try.prog 31 #[.agg #[.int .i64 N, .slice A n c], .int .i64 (k : Int)] w fun e w' => e = .returned (.int .i64 ((k + 3 * n : Nat) : Int)) ∧ w.grownBy w' (Value.slice A n c).ownBlock := by
  have C := Lib.hid (fun W (h : Below w.heap.size w W) => markEdges_any A n c lo k es W (own_below ho h) hl hn hk)
  clear ho
  go_enter Try.func31, Try.ntmps31
  go_wp2_with fail
  refine (C.out _ (below_a1 _ _)).mono ?_
  rintro e w1 ⟨rfl, ho1, hg1⟩
  have HG := Lib.hid (grownBy_trans (grownBy_of_below (below_a1 w (.cells #[.int .i64 N, .slice A n c] 58)) _) hg1)
  clear ho1 hg1
  go_wp2
  go_ret
  exact ⟨rfl, HG.out⟩
end Go.Proofs.Ytpgnappddddlpaa
namespace Go.Proofs.Ytpgnappddddlpaa
open Go.RowKit

/-- One more at place i. -/
def bump (l : List Int) (i : Nat) : List Int := l.set i (l.getD i 0 + 1)
def degs (key : GE → Int) (n : Nat) (es : List GE) : List Int := es.foldl (fun l e => bump l (key e).toNat) (List.replicate n 0)
def degsOf (key : GE → Int) (N : Int) (es : List GE) : List Int := if graphB N es then degs key N.toNat es else []
theorem bump_len (l : List Int) (i : Nat) : (bump l i).length = l.length := by simp [bump]
theorem degs_snoc (key : GE → Int) (n : Nat) (es : List GE) (e : GE) : degs key n (es ++ [e]) = bump (degs key n es) (key e).toNat := by simp [degs]
theorem fold_len (key : GE → Int) : ∀ (es : List GE) (l : List Int), (es.foldl (fun l e => bump l (key e).toNat) l).length = l.length
  | [], _ => rfl
  | e :: r, l => by rw [List.foldl_cons, fold_len key r, bump_len]
theorem degs_len (key : GE → Int) (n : Nat) (es : List GE) : (degs key n es).length = n := by
  unfold degs
  rw [fold_len]
  simp
theorem bump_bound {l : List Int} {i : Nat} {q : Int} (h : ∀ x ∈ l, 0 ≤ x ∧ x ≤ q) (hq : 0 ≤ q) : ∀ x ∈ bump l i, 0 ≤ x ∧ x ≤ q + 1 := by
  intro x hx
  unfold bump at hx
  rcases List.mem_or_eq_of_mem_set hx with hx | rfl
  · have := h x hx; omega
  · rw [List.getD_eq_getElem?_getD]
    cases hh : l[i]? with
    | none => simp; omega
    | some y => have := h y (List.mem_of_getElem? hh); simp; omega
theorem fold_bound (key : GE → Int) : ∀ (es : List GE) (l : List Int) (q : Int), 0 ≤ q → (∀ x ∈ l, 0 ≤ x ∧ x ≤ q) → ∀ x ∈ es.foldl (fun l e => bump l (key e).toNat) l, 0 ≤ x ∧ x ≤ q + es.length
  | [], l, q, _, h => by simpa using h
  | e :: r, l, q, hq, h => by
    intro x hx
    rw [List.foldl_cons] at hx
    have := fold_bound key r _ (q + 1) (by omega) (bump_bound h hq) x hx
    rw [List.length_cons]
    omega
theorem degs_bound (key : GE → Int) (n : Nat) (es : List GE) : ∀ x ∈ degs key n es, 0 ≤ x ∧ x ≤ es.length := by
  intro x hx
  have := fold_bound key es (List.replicate n 0) 0 (by omega) (fun y hy => by rw [List.eq_of_mem_replicate hy]; omega) x hx
  omega
theorem vi_bump (l : List Int) (i : Nat) (v : Int) : (vi l).set i (.int .i64 v) = vi (l.set i v) := by simp [vi, List.map_set]

def OwI (w : World) (lo : Nat) (A : Option Addr) (n c : Nat) (xs : List Int) : Prop := w.ownsRow lo 3 1 (.slice A n c) n (vi xs)
def MadeI (w : World) (xs : List Int) (e : Ending) (w' : World) : Prop :=
  ∃ A n c, e = .returned (.slice A n c) ∧ OwI w' w.heap.size A n c xs ∧ Below w.heap.size w w'
theorem flat_one : ∀ xs : List Int, xs.flatMap (fun x : Int => [Value.int .i64 x]) = vi xs
  | [] => rfl
  | x :: r => by rw [List.flatMap_cons, flat_one r]; rfl
theorem made_zero (M : Nat) (key : GE → Int) (es : List GE) : (madeCells (Value.int .i64 0).cells (M * 1)).toList = vi (degs key M (es.take 0)) := by
  rw [g_rep (fun x : Int => [Value.int .i64 x]) 0 1 (fun _ => rfl) (by omega) (Value.int .i64 0).cells rfl M, flat_one]
  rfl
theorem degs_at {key : GE → Int} {M : Nat} {es : List GE} {f : Nat} (hf : f < M) : ∃ x : Int, (degs key M es)[f]? = some x ∧ 0 ≤ x ∧ x ≤ es.length := by
  have hl : f < (degs key M es).length := by rw [degs_len]; exact hf
  exact ⟨(degs key M es)[f], List.getElem?_eq_getElem hl, degs_bound key M es _ (List.getElem_mem hl)⟩
theorem degs_step {key : GE → Int} {M k : Nat} {es : List GE} {e : GE} {f : Nat} {x : Int} (he : es[k]? = some e) (hk : key e = (f : Int)) (hx : (degs key M (es.take k))[f]? = some x) : vi (degs key M (es.take (k + 1))) = (vi (degs key M (es.take k))).set f (.int .i64 (x + 1)) := by
  rw [g_take es k e he, degs_snoc, hk, Int.toNat_natCast, vi_bump]
  unfold bump
  rw [List.getD_eq_getElem?_getD, hx]
  rfl

end Go.Proofs.Ytpgnappddddlpaa
namespace Go.Proofs.Ytpgnappddddlpaa
open Go.RowKit
set_option linter.unusedVariables false

/-- A list of shards of the call's own; its blocks lie from l to h. -/
def HOwn (w : World) (lo l h : Nat) (A : Option Addr) (n c : Nat) (ls : List SD) : Prop := ∃ bs, OwnH w lo A n c bs ∧ bs.map HE.sd = ls ∧ ∀ g, blkH A n c bs g → l ≤ g ∧ g < h
/-- A list of shards that reads. -/
def HRd (w : World) (A : Option Addr) (n : Nat) (ls : List SD) : Prop := ∃ bs, SlH w A n bs ∧ bs.map HE.sd = ls
section
variable {w w' w0 : World} {lo lo' l h l1 h1 n c : Nat} {A : Option Addr} {ls : List SD} {bs : List HE}
theorem HOwn.of (ho : OwnH w lo A n c bs) (hx : bs.map HE.sd = ls) : HOwn w lo lo w.heap.size A n c ls := ⟨bs, ho, hx, fun g hg => ho.blk hg⟩
theorem HOwn.rd (k : HOwn w lo l h A n c ls) : HRd w A n ls := by
  obtain ⟨bs, ho, hx, _⟩ := k
  exact ⟨bs, ho.sl, hx⟩
theorem HOwn.len (k : HOwn w lo l h A n c ls) : n = ls.length := by
  obtain ⟨bs, ho, hx, _⟩ := k
  rw [← ho.len, ← hx, List.length_map]
theorem HRd.len (k : HRd w A n ls) : n = ls.length := by
  obtain ⟨bs, ho, hx⟩ := k
  rw [← ho.len, ← hx, List.length_map]
theorem HOwn.below (k : HOwn w lo l h A n c ls) (hb : Below w.heap.size w w') : HOwn w' lo l h A n c ls := by
  obtain ⟨bs, ho, hx, hr⟩ := k
  exact ⟨bs, ho.below hb, hx, hr⟩
theorem HOwn.mono (k : HOwn w lo l h A n c ls) (hl : lo' ≤ lo) : HOwn w lo' l h A n c ls := by
  obtain ⟨bs, ho, hx, hr⟩ := k
  exact ⟨bs, ho.mono hl, hx, hr⟩
theorem HRd.below (k : HRd w A n ls) (hb : Below w.heap.size w w') : HRd w' A n ls := by
  obtain ⟨bs, ho, hx⟩ := k
  exact ⟨bs, ho.below hb, hx⟩
theorem OwnH.but {S : Nat → Prop} (k : OwnH w lo A n c bs) (hw : OnlyB S w w') (hS : ∀ g, blkH A n c bs g → ¬ S g) : OwnH w' lo A n c bs :=
  ⟨OnlyB.own k.row hw (fun g hg => hS g (.inl hg)), k.len, fun d hd => OnlyB.own (k.dat.own d hd) hw (fun g hg => hS g (.inr ⟨d, hd, hg⟩)), k.dat.len, k.dat.apart⟩
theorem HOwn.wr (hw : Wr l1 h1 w w') (k : HOwn w lo l h A n c ls) (hd : h ≤ l1 ∨ h1 ≤ l) : HOwn w' lo l h A n c ls := by
  obtain ⟨bs, ho, hx, hr⟩ := k
  exact ⟨bs, ho.but hw (fun g hg hh => by have h2 := hr g hg; have h3 := hh.1; have h4 := hh.2; omega), hx, hr⟩
/-- A row of another type is written. -/
theorem OwnH.apartT {lo1 e sz m : Nat} {v : Value} {xs : List Value} (k : OwnH w lo A n c bs) (ho : w.ownsRow lo1 e sz v m xs) (h1 : e ≠ 85) (h2 : e ≠ 40) : ∀ g, blkH A n c bs g → v.ownBlock ≠ some g := fun g hg hv => by
  rcases hg with hg | ⟨d, hd, hg⟩
  · rcases own_types ho k.row h1 with h3 | h3
    · rw [h3] at hv; cases hv
    · exact h3 (hg.trans hv.symm)
  · rcases own_types ho (k.dat.own d hd) h2 with h3 | h3
    · rw [h3] at hv; cases hv
    · exact h3 (hg.trans hv.symm)
end
/-- The two rows of a farm of the call's own; their blocks lie from l to h. -/
structure FOwn (w : World) (lo l h : Nat) (A : Option Addr) (n c : Nat) (B : Option Addr) (m d : Nat) (es : List Int) (ls : List SD) : Prop where
  e : w.ownsRow lo 3 1 (.slice A n c) n (vi es)
  s : HOwn w lo l h B m d ls
  r : ∀ g, (Value.slice A n c).ownBlock = some g → l ≤ g ∧ g < h
structure FRd (w : World) (A : Option Addr) (n : Nat) (B : Option Addr) (m : Nat) (es : List Int) (ls : List SD) : Prop where
  e : SlI w A n es
  s : HRd w B m ls
section
variable {w w' w0 : World} {lo lo' l h l1 h1 n c m d : Nat} {A B : Option Addr} {es : List Int} {ls : List SD}
theorem FOwn.rd (k : FOwn w lo l h A n c B m d es ls) : FRd w A n B m es ls := ⟨SlI.of_own k.e, k.s.rd⟩
theorem FOwn.below (k : FOwn w lo l h A n c B m d es ls) (hb : Below w.heap.size w w') : FOwn w' lo l h A n c B m d es ls := ⟨own_below k.e hb, k.s.below hb, k.r⟩
theorem FOwn.mono (k : FOwn w lo l h A n c B m d es ls) (hl : lo' ≤ lo) : FOwn w lo' l h A n c B m d es ls := ⟨own_monoG k.e hl, k.s.mono hl, k.r⟩
theorem FRd.below (k : FRd w A n B m es ls) (hb : Below w.heap.size w w') : FRd w' A n B m es ls := ⟨k.e.below hb, k.s.below hb⟩
theorem FOwn.wr (hw : Wr l1 h1 w w') (k : FOwn w lo l h A n c B m d es ls) (hd : h ≤ l1 ∨ h1 ≤ l) : FOwn w' lo l h A n c B m d es ls := ⟨hw.own k.e k.r hd, HOwn.wr hw k.s hd, k.r⟩
theorem FOwn.wide (k : FOwn w lo l h A n c B m d es ls) (hl : l1 ≤ l) (hh : h ≤ h1) : FOwn w lo l1 h1 A n c B m d es ls := by
  obtain ⟨k1, ⟨bs, ho, hx, hr⟩, k3⟩ := k
  exact ⟨k1, ⟨bs, ho, hx, fun g hg => by have := hr g hg; omega⟩, fun g hg => by have := k3 g hg; omega⟩
end
/-- A new farm. -/
def MadeF (w : World) (N : Int) (es : List Int) (ls : List SD) (e : Ending) (w' : World) : Prop :=
  ∃ A c B d, e = .returned (.agg #[.int .i64 N, .slice A es.length c, .slice B ls.length d]) ∧ FOwn w' w.heap.size w.heap.size w'.heap.size A es.length c B ls.length d es ls ∧ Below w.heap.size w w'
/-- A new farm, or none, and whether there is one. -/
def MadeFB (w : World) (N : Int) (es : List Int) (ls : List SD) (b : Bool) (e : Ending) (w' : World) : Prop :=
  ∃ A c B d, e = .returned (.tuple #[.agg #[.int .i64 N, .slice A es.length c, .slice B ls.length d], .bool b]) ∧ FOwn w' w.heap.size w.heap.size w'.heap.size A es.length c B ls.length d es ls ∧ Below w.heap.size w w'
/-- Marks in a farm. -/
def FMk (w : World) (k : Nat) (A : Option Addr) (n : Nat) (B : Option Addr) (m kk : Nat) : Prop := SlI w A n (ints k n) ∧ ∃ bs, SlH w B m (markH (k + n) bs) ∧ endH (k + n) bs = kk ∧ ∀ e ∈ bs, e.n ≤ 1048576 ∧ e.es.length = e.n
theorem FMk.below {w w' : World} {k n m kk : Nat} {A B : Option Addr} (h : FMk w k A n B m kk) (hb : Below w.heap.size w w') : FMk w' k A n B m kk := by
  obtain ⟨h1, bs, h2, h3, h4⟩ := h
  exact ⟨h1.below hb, bs, h2.below hb, h3, h4⟩
def endFm (k : Nat) (es : List Int) (ls : List SD) : Nat := k + es.length + 2 * ls.length + 5 * (flatK ls).length
def MarkedF (w : World) (l h k : Nat) (A : Option Addr) (n : Nat) (B : Option Addr) (m kk : Nat) (e : Ending) (w' : World) : Prop :=
  e = .returned (.int .i64 (kk : Int)) ∧ FMk w' k A n B m kk ∧ Wr l h w w'
/-- What a farm that reads says of its rows. -/
theorem FRd.open_ {w : World} {A B : Option Addr} {n m : Nat} {es : List Int} {ls : List SD} (h : FRd w A n B m es ls) (hm : ls.length + (flatK ls).length ≤ 1048576) : ∃ bs, SlI w A n es ∧ SlH w B m bs ∧ sdL bs = ls ∧ m ≤ 1048576 ∧ ∀ e ∈ bs, e.n ≤ 1048576 := by
  obtain ⟨h1, bs, h2, h3⟩ := h
  have hsm := HSm.of (M := 1048576) h2.len (fun e he => (h2.each e he).rd.len) h3 hm
  exact ⟨bs, h1, h2, h3, hsm.c, hsm.e⟩
end Go.Proofs.Ytpgnappddddlpaa
namespace Go.Proofs.Ytpgnappddddlpaa
open Go.RowKit

theorem szEdges_any (A : Option Addr) (n c : Nat) (left : Int) (w : World) (hn : n ≤ maxLen) (h0 : 0 ≤ left) (h1 : left ≤ 1048576) :
    Calls Try.prog 70 #[.slice A n c, .int .i64 left] w fun e w' => e = .returned (.int .i64 (leftG left n)) ∧ w = w' := by
  unfold maxLen at hn
  by_cases h : (n : Int) ≤ left
  · have HV := Lib.hid (leftG_pos h)
    have h2 : 0 ≤ left - (n : Int) := by omega
    go_enter Try.func70, Try.ntmps70
    go_wp2
    go_ret
    exact ⟨g_int HV.out.symm, rfl⟩
  · have HV := Lib.hid (leftG_neg (n := n) (left := left) (by omega))
    have h2 : left - (n : Int) < 0 := by omega
    go_enter Try.func70, Try.ntmps70
    go_wp2
    go_ret
    exact ⟨g_int HV.out.symm, rfl⟩
theorem szGraph_any (N : Int) (A : Option Addr) (n c : Nat) (left : Int) (w : World) (hn : n ≤ maxLen) (h0 : 0 ≤ left) (h1 : left ≤ 1048576) :
    Calls Try.prog 26 #[.agg #[.int .i64 N, .slice A n c], .int .i64 left] w (GNum w (leftG left n)) := by
  have C := Lib.hid (fun w => szEdges_any A n c left w hn h0 h1)
  by_cases h : (n : Int) ≤ left
  · have h2 : 0 ≤ left - (n : Int) := by omega
    have e1 := leftG_pos h
    rw [e1] at C ⊢
    generalize left - (n : Int) = q at C h2 ⊢
    clear e1 h
    go_enter Try.func26, Try.ntmps26
    go_wp2_with fail
    refine (C.out _).mono ?_
    rintro e w1 ⟨rfl, rfl⟩
    go_wp2
    go_ret
    exact ⟨rfl, below_a1 _ _⟩
  · have e1 := leftG_neg (n := n) (left := left) (by omega)
    rw [e1] at C ⊢
    clear e1 h
    go_enter Try.func26, Try.ntmps26
    go_wp2_with fail
    refine (C.out _).mono ?_
    rintro e w1 ⟨rfl, rfl⟩
    go_wp2
    go_ret
    exact ⟨rfl, below_a1 _ _⟩

theorem toEdge_any (e : GE) (w : World) :
    Calls Try.prog 120 #[.agg #[.int .i64 e.f, .int .i64 e.t, .int .i64 e.w]] w fun r w' => r = .returned (.agg #[.int .i64 e.f, .int .i64 e.t, .int .i64 e.w]) ∧ Below w.heap.size w w' := by
  go_enter Try.func120, Try.ntmps120
  go_wp2
  refine bodyPost_ret (v := .agg #[.int .i64 e.f, .int .i64 e.t, .int .i64 e.w]) (by simp [results, Try.results120, go_sem]) rfl ⟨rfl, ?_⟩
  repeat (first | exact below_a3 _ _ _ _ | refine Below.setCell ?_ (by simp <;> omega) _)

set_option maxRecDepth 10000 in
set_option maxHeartbeats 1000000 in
theorem toEdges_any (A : Option Addr) (n c : Nat) (es : List GE) (w : World) (hr : SlG w A n es) (hn : n ≤ 2097152) :
    Calls Try.prog 73 #[.slice A n c] w (MadeG w es) := by
  obtain ⟨i0, hi, hz0, hz1, hz2⟩ := info_parts Try.infoEdge
  have HR := Lib.hid hr
  clear hr
  go_enter Try.func73, Try.ntmps73
  go_wp2_with (refine wpList_make_full _ rfl (.tmp 6) (.tmp 6) 56 rfl w.heap.size 145 i0 (.agg #[.int .i64 0, .int .i64 0, .int .i64 0]) 3 Try.underlying56 hi hz0 hz1 .i64 .i64 _ _ n rfl rfl rfl rfl (by rw [hz2]; omega) (by unfold maxLen; omega) (Nat.le_refl _) ?_; intro w1 hown hg)
  have hb1 : Below w.heap.size w w1 := (Below.refl _ _).grown hg (Nat.le_refl _) (by simp)
  have hown1 : w1.ownsRow w.heap.size 145 3 (.slice (some ⟨w.heap.size, 0, none⟩) n n) n ((es.take 0 ++ List.replicate (n - 0) zeroG).flatMap GE.cells) := by
    have h := hown
    rw [g_rep GE.cells zeroG 3 GE.cells_len (by omega) (Value.agg #[.int .i64 0, .int .i64 0, .int .i64 0]).cells rfl n] at h
    simpa using h
  clear hown hg
  have HO1 := Lib.hid hown1
  have HB1 := Lib.hid hb1
  clear hown1 hb1
  go_loopw [4] (fun i wr => ∃ k : Nat, k ≤ n ∧ i = .int .i64 k ∧ Hid (wr.ownsRow w.heap.size 145 3 (.slice (some ⟨w.heap.size, 0, none⟩) n n) n ((es.take k ++ List.replicate (n - k) zeroG).flatMap GE.cells)) ∧ Hid (Below w.heap.size w wr)) (fun i _ => n - (intOf i).toNat)
  case atStart => exact ⟨0, Nat.zero_le _, rfl, HO1, HB1⟩
  case round =>
    clear HO1 HB1
    obtain ⟨k, hk, rfl, hown, hbel⟩ := hrel
    by_cases hlt : k < n
    · obtain ⟨b, off, e, rfl, hbw, he, c0, c1, c2⟩ := HR.out.at_ hlt
      have c0 := (hbel.out.cell (p := ⟨b, off + k * 3, none⟩) hbw).trans c0
      have c1 := (hbel.out.cell (p := ⟨b, off + k * 3 + 1, none⟩) hbw).trans c1
      have c2 := (hbel.out.cell (p := ⟨b, off + k * 3 + 2, none⟩) hbw).trans c2
      have HC := Lib.hid (toEdge_any e wr)
      have hmk : (es.take k).length = k := by rw [List.length_take, HR.out.len]; omega
      go_wp2_with fail
      refine HC.out.mono ?_
      rintro e1 w2 ⟨rfl, hb2⟩
      have HB2 := Lib.hid hb2
      have hown2 := own_below hown.out hb2
      rw [rep_succ n k hlt] at hown2
      have hq := fun i (hi : i < 3) => (hown2.cellAt (k * 3 + i) (by omega)).trans (flat_get GE.cells 3 GE.cells_len _ k i zeroG (g_get _ _ _ _ hmk) hi)
      have hc0 : w2.cell? ⟨w.heap.size, k * 3, none⟩ = some (.int .i64 0) := hq 0 (by omega)
      have hc1 : w2.cell? ⟨w.heap.size, k * 3 + 1, none⟩ = some (.int .i64 0) := hq 1 (by omega)
      have hc2 : w2.cell? ⟨w.heap.size, k * 3 + 2, none⟩ = some (.int .i64 0) := hq 2 (by omega)
      have hf0 := hown2.frozenAt (k * 3)
      have hf1 := hown2.frozenAt (k * 3 + 1)
      have hf2 := hown2.frozenAt (k * 3 + 2)
      have HL := Lib.hid (g_lay (e := e) hown2 hmk)
      clear hown2 hq hb2
      go_wp2
      go_roundw
      case rel =>
        refine ⟨k + 1, by omega, by go_num, Lib.hid ?_, Lib.hid (((((g_chain hbel.out HB2.out).setCell (Nat.le_refl _) _).setCell (Nat.le_refl _) _).setCell (Nat.le_refl _) _))⟩
        rw [g_take es k e he.out, List.append_assoc]
        exact HL.out.1
      case measure => simp [intOf]; omega
    · obtain rfl : k = n := by omega
      go_wp2
      go_ret
      have hfin := hown.out
      rw [Nat.sub_self, List.replicate_zero, List.append_nil, List.take_of_length_le (by rw [HR.out.len]; exact Nat.le_refl _), ← HR.out.len] at hfin
      refine ⟨some ⟨w.heap.size, 0, none⟩, es.length, ?_, hfin, hbel.out⟩
      rw [HR.out.len]
      rfl
set_option maxHeartbeats 400000 in
theorem toGraph_any (N : Int) (A : Option Addr) (n c : Nat) (es : List GE) (w : World) (hr : SlG w A n es) (hn : n ≤ 2097152) :
    Calls Try.prog 28 #[.agg #[.int .i64 N, .slice A n c]] w (MadeGr w N es) := by
  have C := Lib.hid (fun w' (hb : Below w.heap.size w w') => toEdges_any A n c es w' (hr.below hb) hn)
  clear hr
  go_enter Try.func28, Try.ntmps28
  go_wp2_with fail
  refine (C.out _ ?_).mono ?_
  · repeat (first | exact below_a3 _ _ _ _ | refine Below.setCell ?_ (by simp <;> omega) _)
  · rintro e w1 ⟨A1, c1, rfl, ho1, hb1⟩
    obtain ⟨hc, hf⟩ := bcell hb1
    have hz : w.heap.size + 1 + 1 < w1.heap.size := by have := hb1.size; simp at this; omega
    have HB := Lib.hid hb1
    clear hb1
    go_wp2
    refine bodyPost_ret (v := .agg #[.int .i64 N, .slice A1 es.length c1]) (by simp [results, Try.results28, go_sem, hc]) rfl ⟨A1, c1, rfl, ?_, ?_⟩
    · have ho2 := ho1
      rw [World.size_alloc, World.size_alloc, World.size_alloc] at ho2
      refine own_monoG (lo := w.heap.size + 1 + 1 + 1) ?_ (by omega)
      repeat (first | exact ho2 | refine own_lowG ?_ (by simp <;> omega) _)
    · repeat (first | exact g_chain (by repeat (first | exact below_a3 _ _ _ _ | refine Below.setCell ?_ (by simp <;> omega) _)) HB.out | refine Below.setCell ?_ (by simp <;> omega) _)
end Go.Proofs.Ytpgnappddddlpaa
namespace Go.Proofs.Ytpgnappddddlpaa
open Go.RowKit

theorem szZ_any (A : Option Addr) (n c : Nat) (left : Int) (w : World) (hn : n ≤ maxLen) (h0 : 0 ≤ left) (h1 : left ≤ 1048576) :
    Calls Try.prog 63 #[.slice A n c, .int .i64 left] w fun e w' => e = .returned (.int .i64 (leftG left n)) ∧ w = w' := by
  unfold maxLen at hn
  by_cases h : (n : Int) ≤ left
  · have HV := Lib.hid (leftG_pos h)
    have h2 : 0 ≤ left - (n : Int) := by omega
    go_enter Try.func63, Try.ntmps63
    go_wp2
    go_ret
    exact ⟨g_int HV.out.symm, rfl⟩
  · have HV := Lib.hid (leftG_neg (n := n) (left := left) (by omega))
    have h2 : left - (n : Int) < 0 := by omega
    go_enter Try.func63, Try.ntmps63
    go_wp2
    go_ret
    exact ⟨g_int HV.out.symm, rfl⟩
end Go.Proofs.Ytpgnappddddlpaa
namespace Go.Proofs.Ytpgnappddddlpaa
open Go.RowKit

set_option maxRecDepth 10000 in
set_option maxHeartbeats 1000000 in
theorem eqInts_any (A B : Option Addr) (n c d : Nat) (xs : List Int) (w : World) (ha : SlI w A n xs) (hb : SlI w B n xs) (hn : n ≤ 2097152) :
    Calls Try.prog 37 #[.slice A n c, .slice B n d] w (GTell w true) := by
  have HA := Lib.hid ha
  have HB := Lib.hid hb
  clear ha hb
  go_enter Try.func37, Try.ntmps37
  go_wp2
  go_loopw [5] (fun i wr => ∃ k : Nat, k ≤ n ∧ i = .int .i64 k ∧ Hid (Below w.heap.size w wr)) (fun i _ => n - (intOf i).toNat)
  case atStart => exact ⟨0, Nat.zero_le _, rfl, Lib.hid (Below.refl _ _)⟩
  case round =>
    obtain ⟨k, hk, rfl, hbel⟩ := hrel
    by_cases hlt : k < n
    · obtain ⟨b, off, e, rfl, hbw, he, c0⟩ := HA.out.at_ hlt
      obtain ⟨b', off', e', rfl, hbw', he', c0'⟩ := HB.out.at_ hlt
      have hee : e' = e := by have h1 := he.out; rw [he'.out] at h1; injection h1
      subst hee
      have c0 := (hbel.out.cell (p := ⟨b, off + k, none⟩) hbw).trans c0
      have c0' := (hbel.out.cell (p := ⟨b', off' + k, none⟩) hbw').trans c0'
      clear he he'
      go_wp2
      go_region
      go_wp2
      go_roundw
      case rel => exact ⟨k + 1, by omega, by go_num, Lib.hid (by first | exact hbel.out | exact hbel.out.drew | exact hbel.out.drew.drew)⟩
      case measure => simp [intOf]; omega
    · go_wp2
      go_ret
      exact ⟨rfl, hbel.out⟩

set_option maxRecDepth 10000 in
set_option maxHeartbeats 1000000 in
theorem markInts_any (A : Option Addr) (n c lo k : Nat) (xs : List Int) (w : World) (ho : w.ownsRow lo 3 1 (.slice A n c) n (vi xs)) (hn : n ≤ 2097152) (hk : k ≤ 8388608) :
    Calls Try.prog 38 #[.slice A n c, .int .i64 (k : Int)] w (MarkedI w lo k A n c) := by
  have hl : xs.length = n := by have := ho.1; rw [vi_len] at this; omega
  have HL := Lib.hid hl
  rcases Nat.eq_zero_or_pos n with rfl | hpos
  · obtain rfl : xs = [] := List.eq_nil_of_length_eq_zero hl
    have HO := Lib.hid ho
    clear ho hl
    go_enter Try.func38, Try.ntmps38
    go_wp2
    go_loopw [1, 5] (fun q i wr => i = .int .i64 0 ∧ q = .int .i64 (k : Int) ∧ wr = w) (fun _ _ _ => 0)
    case atStart => exact ⟨rfl, rfl, rfl⟩
    case round =>
      obtain ⟨rfl, rfl, rfl⟩ := hrel
      go_wp2
      go_ret
      exact ⟨rfl, HO.out, World.grownBy.refl _ _⟩
  · obtain ⟨g, rfl⟩ := g_own_at ho hpos
    have HO : Hid (w.ownsRow lo 3 1 (.slice (some ⟨g, 0, none⟩) n c) n (vi (markI k xs 0))) := Lib.hid (by rw [markI_zero]; exact ho)
    clear ho hl
    go_enter Try.func38, Try.ntmps38
    go_wp2
    go_loopw [1, 5] (fun q i wr => ∃ j : Nat, j ≤ n ∧ i = .int .i64 j ∧ q = .int .i64 ((k + j : Nat) : Int) ∧ Hid (wr.ownsRow lo 3 1 (.slice (some ⟨g, 0, none⟩) n c) n (vi (markI k xs j))) ∧ Hid (w.grownBy wr (some g))) (fun _ i _ => n - (intOf i).toNat)
    case atStart => exact ⟨0, Nat.zero_le _, rfl, rfl, HO, Lib.hid (World.grownBy.refl _ _)⟩
    case round =>
      clear HO
      obtain ⟨j, hj, rfl, rfl, hown, hgr⟩ := hrel
      by_cases hlt : j < n
      · have hc := hown.out.cellAt j (by omega)
        have hx : (vi (markI k xs j))[j]? = some (.int .i64 (xs[j]'(by rw [HL.out]; exact hlt))) := by
          rw [vi_get]
          unfold markI
          rw [List.getElem?_append_right (by rw [ints_len]; exact Nat.le_refl _), ints_len, Nat.sub_self, List.getElem?_drop, Nat.add_zero, List.getElem?_eq_getElem]
          rfl
        have hc0 := hc.trans hx
        have hf0 := hown.out.frozenAt j
        have HS := Lib.hid (hown.out.stored j (.int .i64 ((k + j : Nat) : Int)))
        rw [markI_step k xs j (by rw [HL.out]; exact hlt)] at HS
        clear hc hx hown
        go_wp2
        go_roundw
        case rel => exact ⟨j + 1, by omega, by go_num, by go_num, Lib.hid HS.out.1, Lib.hid (hgr.out.trans HS.out.2)⟩
        case measure => simp [intOf]; omega
      · obtain rfl : j = n := by omega
        go_wp2
        go_ret
        refine ⟨rfl, ?_, hgr.out⟩
        have h := hown.out
        rw [show markI k xs j = ints k j by rw [← HL.out, markI_full]] at h
        exact h

set_option maxRecDepth 10000 in
set_option maxHeartbeats 1000000 in
theorem heldInts_any (A : Option Addr) (n c k : Nat) (w : World) (hr : SlI w A n (ints k n)) (hn : n ≤ 2097152) (hk : k ≤ 8388608) :
    Calls Try.prog 39 #[.slice A n c, .int .i64 (k : Int)] w fun e w' => e = .returned (.int .i64 ((k + n : Nat) : Int)) ∧ w = w' := by
  have HR := Lib.hid hr
  clear hr
  go_enter Try.func39, Try.ntmps39
  go_wp2
  go_loopw [1, 5] (fun q i wr => ∃ j : Nat, j ≤ n ∧ i = .int .i64 j ∧ q = .int .i64 ((k + j : Nat) : Int) ∧ wr = w) (fun _ i _ => n - (intOf i).toNat)
  case atStart => exact ⟨0, Nat.zero_le _, rfl, by rfl, by first | rfl | trivial⟩
  case round =>
    obtain ⟨j, hj, rfl, rfl, rfl⟩ := hrel
    by_cases hlt : j < n
    · obtain ⟨b, off, e, rfl, hbw, he, c0⟩ := HR.out.at_ hlt
      obtain rfl : e = ((k + j : Nat) : Int) := by have h1 := he.out; rw [ints_get k n j hlt] at h1; injection h1 with h1; exact h1.symm
      go_wp2
      go_roundw
      case rel => exact ⟨j + 1, by omega, by go_num, by go_num, by first | rfl | trivial⟩
      case measure => simp [intOf]; omega
    · obtain rfl : j = n := by omega
      go_wp2
      go_ret
      exact ⟨rfl, rfl⟩

end Go.Proofs.Ytpgnappddddlpaa
namespace Go.Proofs.Ytpgnappddddlpaa
open Go.RowKit

/-- Shapes of plain data; a struct is a chain of pairs. -/
inductive Sh where
  | int (k : IntKind)
  | bool
  | str
  | sl (e : Sh)
  | pair (a b : Sh)

def Sh.size : Sh → Nat
  | .int _ => 1
  | .bool => 1
  | .str => 1
  | .sl _ => 1
  | .pair a b => a.size + b.size
def Sh.D : Sh → Type
  | .int _ => Int
  | .bool => Bool
  | .str => ByteArray
  | .sl e => List e.D
  | .pair a b => a.D × b.D

/-- The cells from an address on. -/
def CellsAt (w : World) (b off : Nat) (cs : List Value) : Prop := ∀ (i : Nat) (v : Value), cs[i]? = some v → w.cell? ⟨b, off + i, none⟩ = some v
theorem CellsAt.same {w w' : World} {b off : Nat} {cs : List Value} (h : CellsAt w b off cs) (hb : w'.heap[b]? = w.heap[b]?) : CellsAt w' b off cs :=
  fun i v hv => (World.cell?_of_block (a := ⟨b, off + i, none⟩) hb).trans (h i v hv)

def RdR (lo hi : Nat) (w : World) : (s : Sh) → List Value → s.D → Prop
  | .int k, cs, n => cs = [.int k n] ∧ (Lit.int k n).wf = true
  | .bool, cs, b => cs = [.bool b]
  | .str, cs, x => cs = [.string x] ∧ ByteArray.size x ≤ maxLen
  | .sl e, cs, ds => ∃ A n c, cs = [.slice A n c] ∧ List.length ds = n ∧ n ≤ c ∧ c ≤ maxLen ∧ (0 < n → ∃ b off, A = some ⟨b, off, none⟩ ∧ lo ≤ b ∧ b < hi ∧
      ∀ (j : Nat) (d : e.D), (show List e.D from ds)[j]? = some d → ∃ es, es.length = e.size ∧ CellsAt w b (off + j * e.size) es ∧ RdR lo hi w e es d)
  | .pair a b, cs, d => ∃ c1 c2, cs = c1 ++ c2 ∧ c1.length = a.size ∧ RdR lo hi w a c1 d.1 ∧ RdR lo hi w b c2 d.2

theorem RdR.len {lo hi : Nat} {w : World} : ∀ {s : Sh} {cs : List Value} {d : s.D}, RdR lo hi w s cs d → cs.length = s.size
  | .int _, _, _, h => by rw [h.1]; rfl
  | .bool, _, _, h => by rw [show _ = _ from h]; rfl
  | .str, _, _, h => by rw [h.1]; rfl
  | .sl _, _, _, h => by obtain ⟨_, _, _, e, _⟩ := h; rw [e]; rfl
  | .pair _ _, _, _, h => by
    obtain ⟨c1, c2, e, h1, _, h2⟩ := h
    rw [e, List.length_append, h1, RdR.len h2]
    rfl

/-- Where the blocks from lo on and below hi are as they were, the reading is too; and the bounds may be widened. -/
theorem RdR.keep {lo hi lo' hi' : Nat} {w w' : World} (hl : lo' ≤ lo) (hh : hi ≤ hi') (hs : ∀ k, lo ≤ k → k < hi → w'.heap[k]? = w.heap[k]?) :
    ∀ {s : Sh} {cs : List Value} {d : s.D}, RdR lo hi w s cs d → RdR lo' hi' w' s cs d
  | .int _, _, _, h => h
  | .bool, _, _, h => h
  | .str, _, _, h => h
  | .sl e, _, _, h => by
    obtain ⟨A, n, c, e1, e2, e3, e4, h⟩ := h
    refine ⟨A, n, c, e1, e2, e3, e4, fun hn => ?_⟩
    obtain ⟨b, off, eA, hb1, hb2, h⟩ := h hn
    refine ⟨b, off, eA, by omega, by omega, fun j d hd => ?_⟩
    obtain ⟨es, hl2, hc, hr⟩ := h j d hd
    exact ⟨es, hl2, hc.same (hs b hb1 hb2), RdR.keep hl hh hs hr⟩
  | .pair _ _, _, _, h => by
    obtain ⟨c1, c2, e, h1, ha, hb⟩ := h
    exact ⟨c1, c2, e, h1, RdR.keep hl hh hs ha, RdR.keep hl hh hs hb⟩

theorem RdR.below {lo hi B : Nat} {w w' : World} {s : Sh} {cs : List Value} {d : s.D} (h : RdR lo hi w s cs d) (hb : Below B w w') (hB : hi ≤ B) : RdR lo hi w' s cs d :=
  h.keep (Nat.le_refl _) (Nat.le_refl _) (fun k _ hk => hb.block k (by omega))
theorem RdR.drewN {lo hi : Nat} {w : World} {s : Sh} {cs : List Value} {d : s.D} (h : RdR lo hi w s cs d) (k : Nat) : RdR lo hi (w.drewN k) s cs d :=
  RdR.keep (w := w) (w' := w.drewN k) (Nat.le_refl _) (Nat.le_refl _) (fun _ _ _ => rfl) h
theorem RdR.widen {lo hi lo' hi' : Nat} {w : World} {s : Sh} {cs : List Value} {d : s.D} (h : RdR lo hi w s cs d) (hl : lo' ≤ lo) (hh : hi ≤ hi') : RdR lo' hi' w s cs d :=
  h.keep hl hh (fun _ _ _ => rfl)

/-- The element at place j of a slice that reads so. -/
theorem RdR.at_ {lo hi : Nat} {w : World} {e : Sh} {A : Option Addr} {n c j : Nat} {ds : List e.D} (h : RdR lo hi w (.sl e) [.slice A n c] ds) (hj : j < n) :
    ∃ (b off : Nat) (es : List Value) (d : e.D), A = some ⟨b, off, none⟩ ∧ lo ≤ b ∧ b < hi ∧ Hid (ds[j]? = some d) ∧ es.length = e.size ∧ CellsAt w b (off + j * e.size) es ∧ RdR lo hi w e es d := by
  obtain ⟨A', n', c', e1, e2, _, _, h⟩ := h
  simp only [List.cons.injEq, Value.slice.injEq, and_true] at e1
  obtain ⟨rfl, rfl, rfl⟩ := e1
  obtain ⟨b, off, eA, hb1, hb2, h⟩ := h (by omega)
  have hl : j < List.length ds := by omega
  obtain ⟨es, h1, h2, h3⟩ := h j ds[j] (List.getElem?_eq_getElem hl)
  exact ⟨b, off, es, ds[j], eA, hb1, hb2, List.getElem?_eq_getElem hl, h1, h2, h3⟩
theorem add_plain (b off j : Nat) : ((⟨b, off, none⟩ : Addr).add j) = ⟨b, off + j, none⟩ := by unfold Addr.add; split <;> simp_all
theorem add_spot {w : World} {a : Addr} {v : Value} (h : w.cell? (a.add 0) = some v) : a.spot = none := by
  have h1 := World.cell?_spot h
  simpa [Addr.add] using h1

section
variable {H : Type} {enc : TypeId × Value → H} {P : Program} {w : World} {base : Nat} {spare : Nat → Bool} {held : Bool}

/-- Whatever reads at the type t (as the form reads arguments) reads as a datum of the shape s. -/
def Opens (enc : TypeId × Value → H) (P : Program) (w : World) (base : Nat) (spare : Nat → Bool) (held : Bool) (t : TypeId) (s : Sh) : Prop :=
  ∀ (fuel : Nat) (cs : List Value) (x : DataW H × List MemPlace), DataW.trod enc P w base spare held fuel t cs = some x → ∃ d : s.D, RdR 0 w.heap.size w s cs d
theorem opens_int {t : TypeId} {k : IntKind} (ht : P.underlying t = some (.int k)) : Opens enc P w base spare held t (.int k) := fun _ _ _ h => by
  obtain ⟨n, e, _, hw⟩ := DataW.trod_int ht h
  exact ⟨n, e, hw⟩
theorem opens_bool {t : TypeId} (ht : P.underlying t = some .bool) : Opens enc P w base spare held t .bool := fun _ _ _ h => by
  obtain ⟨b, e, _⟩ := DataW.trod_bool ht h
  exact ⟨b, e⟩
theorem opens_str {t : TypeId} (ht : P.underlying t = some .string) : Opens enc P w base spare held t .str := fun _ _ _ h => by
  obtain ⟨x, e, _, hw⟩ := DataW.trod_string ht h
  exact ⟨x, e, hw⟩
theorem opens_sl {t e : TypeId} {s : Sh} (ht : P.underlying t = some (.slice e)) (hc : P.cellsOf e = s.size) (hs : 0 < s.size) (ho : Opens enc P w base spare held e s) : Opens enc P w base spare held t (.sl s) := fun _ _ _ h => by
  rcases DataW.trod_slice ht h with ⟨rfl, _⟩ | ⟨a, len, cap, elems, rest, n, _, rfl, _, _, hl, hmx, hlen, hel, hsp1, hsp2⟩
  · exact ⟨([] : List s.D), none, 0, 0, rfl, rfl, Nat.le_refl _, Nat.zero_le _, fun h0 => absurd h0 (by omega)⟩
  · have each : ∀ i, i < len → ∃ (es : List Value) (d : s.D), es.length = s.size ∧ (∀ j, j < s.size → w.cell? (a.add (i * s.size + j)) = es[j]?) ∧ RdR 0 w.heap.size w s es d := by
      intro i hi
      have h1 := hel i hi
      rw [List.getElem?_eq_getElem (by omega), Option.bind_eq_some_iff] at h1
      obtain ⟨es, hes, htr⟩ := h1
      obtain ⟨_, h2, h3⟩ := World.cells?_some hes
      obtain ⟨d, hd⟩ := ho _ _ _ htr
      refine ⟨es, d, by rw [h2, hc], fun j hj => ?_, hd⟩
      have := h3 j (by rw [hc]; exact hj)
      rw [hc] at this
      rw [← this]
      congr 1
      unfold Addr.add
      by_cases h01 : i * s.size = 0 <;> by_cases h02 : j = 0 <;> simp [h01, h02, Nat.add_assoc]
    have hall : ∃ ds : List s.D, ds.length = len ∧ ∀ (i : Nat) (d : s.D), ds[i]? = some d → ∃ es : List Value, es.length = s.size ∧ (∀ j, j < s.size → w.cell? (a.add (i * s.size + j)) = es[j]?) ∧ RdR 0 w.heap.size w s es d := by
      clear hel h hl hlen hsp1 hsp2
      induction len with
      | zero => exact ⟨[], rfl, fun i d h => by simp at h⟩
      | succ m ih =>
        obtain ⟨ds, hd1, hd2⟩ := ih (fun i hi => each i (by omega))
        obtain ⟨es, d, h1, h2, h3⟩ := each m (by omega)
        refine ⟨ds ++ [d], by simp [hd1], fun i d' hi => ?_⟩
        rcases Nat.lt_trichotomy i m with hlt | heq | hgt
        · rw [List.getElem?_append_left (by omega)] at hi
          exact hd2 i d' hi
        · subst heq
          rw [List.getElem?_append_right (by omega), hd1, Nat.sub_self] at hi
          simp at hi
          subst hi
          exact ⟨es, h1, h2, h3⟩
        · rw [List.getElem?_eq_none (by simp; omega)] at hi
          cases hi
    obtain ⟨ds, hd1, hd2⟩ := hall
    refine ⟨ds, some a, len, cap, rfl, hd1, hl, hmx, fun h0 => ?_⟩
    obtain ⟨es0, d0, h1, h2, _⟩ := each 0 h0
    have hc0 : w.cell? (a.add 0) = some es0[0] := by
      have := h2 0 hs
      rw [Nat.zero_mul, Nat.add_zero] at this
      rw [this, List.getElem?_eq_getElem (by omega)]
    have hsp := add_spot hc0
    obtain ⟨b, off, sp⟩ := a
    simp only at hsp
    subst hsp
    have hlt : b < w.heap.size := by
      rw [add_plain] at hc0
      exact World.block_lt_of_cell? w _ hc0
    refine ⟨b, off, rfl, Nat.zero_le _, hlt, fun j d hj => ?_⟩
    obtain ⟨es, h3, h4, h5⟩ := hd2 j d hj
    refine ⟨es, h3, fun i v hv => ?_, h5⟩
    have hi : i < s.size := by have := (List.getElem?_eq_some_iff.1 hv).1; omega
    have := h4 i hi
    rw [add_plain, ← Nat.add_assoc] at this
    rw [this, hv]

/-- The fields of a struct from one on. -/
def OpensF (enc : TypeId × Value → H) (P : Program) (w : World) (base : Nat) (spare : Nat → Bool) (held : Bool) (fs : List Field) (off : Nat) (s : Sh) : Prop :=
  ∀ cs : List Value, (∀ f ∈ fs, ∃ (n : Nat) (y : DataW H × List MemPlace), DataW.trod enc P w base spare held n f.type ((cs.drop f.offset).take (P.cellsOf f.type)) = some y) → cs.length = off + s.size → ∃ d : s.D, RdR 0 w.heap.size w s (cs.drop off) d
theorem opensF_last {f : Field} {off : Nat} {s : Sh} (h1 : f.offset = off) (hc : P.cellsOf f.type = s.size) (ho : Opens enc P w base spare held f.type s) : OpensF enc P w base spare held [f] off s := fun cs hf hl => by
  obtain ⟨n, y, h⟩ := hf f (by simp)
  obtain ⟨d, hd⟩ := ho _ _ _ h
  rw [h1, hc, List.take_of_length_le (by rw [List.length_drop]; omega)] at hd
  exact ⟨d, hd⟩
theorem opensF_cons {f : Field} {fs : List Field} {off : Nat} {a b : Sh} (h1 : f.offset = off) (hc : P.cellsOf f.type = a.size) (ho : Opens enc P w base spare held f.type a) (hr : OpensF enc P w base spare held fs (off + a.size) b) :
    OpensF enc P w base spare held (f :: fs) off (.pair a b) := fun cs hf hl => by
  obtain ⟨n, y, h⟩ := hf f (by simp)
  obtain ⟨d, hd⟩ := ho _ _ _ h
  rw [h1, hc] at hd
  have hsz : (Sh.pair a b).size = a.size + b.size := rfl
  obtain ⟨d2, hd2⟩ := hr cs (fun g hg => hf g (by simp [hg])) (by rw [hl, hsz]; omega)
  refine ⟨(d, d2), _, _, ?_, hd.len, hd, hd2⟩
  rw [← List.drop_drop]
  exact (List.take_append_drop _ _).symm
theorem opens_struct {t : TypeId} {fs : Array Field} {s : Sh} (ht : P.underlying t = some (.struct fs)) (hc : P.cellsOf t = s.size) (hf : OpensF enc P w base spare held fs.toList 0 s) : Opens enc P w base spare held t s := fun _ cs _ h => by
  obtain ⟨xs, n, _, _, hl, hlen, hall⟩ := DataW.trod_struct ht h
  obtain ⟨d, hd⟩ := hf cs (fun f hfm => by
    obtain ⟨i, hi, he⟩ := List.getElem_of_mem hfm
    have hi2 : i < fs.size := by simpa using hi
    have h1 := hall i f (by rw [← he]; simp [hi2])
    rw [List.getElem?_eq_getElem (by omega)] at h1
    exact ⟨n, _, h1⟩) (by rw [hl, hc]; omega)
  exact ⟨d, by simpa using hd⟩
end
end Go.Proofs.Ytpgnappddddlpaa
