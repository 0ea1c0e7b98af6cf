/- Graphs: valid ones as data, and the contracts of the model's and the program's functions that ask it. Condition: at most 2^20 edges. -/
import Derived.Test.YtpgnappddddlpaaGrB
namespace Go.Proofs.Ytpgnappddddlpaa
open Go.RowKit

def edgeB (n : Int) (e : GE) : Bool := decide (0 ≤ e.f ∧ e.f < n ∧ 0 ≤ e.t ∧ e.t < n ∧ 0 ≤ e.w ∧ e.w ≤ 1000)
def graphB (n : Int) (es : List GE) : Bool := decide (0 ≤ n ∧ n ≤ 150 ∧ es.length ≤ 400) && es.all (edgeB n)
theorem edgeB_iff {n : Int} {e : GE} (h : edgeB n e = true) : 0 ≤ e.f ∧ e.f < n ∧ 0 ≤ e.t ∧ e.t < n ∧ 0 ≤ e.w ∧ e.w ≤ 1000 := of_decide_eq_true h
theorem graphB_iff {n : Int} {es : List GE} (h : graphB n es = true) : 0 ≤ n ∧ n ≤ 150 ∧ es.length ≤ 400 ∧ ∀ e ∈ es, edgeB n e = true := by
  unfold graphB at h
  rw [Bool.and_eq_true, decide_eq_true_iff, List.all_eq_true] at h
  exact ⟨h.1.1, h.1.2.1, h.1.2.2, h.2⟩
theorem graphB_no {n : Int} {es : List GE} {k : Nat} {e : GE} (h : es[k]? = some e) (he : edgeB n e = false) : graphB n es = false := by
  cases hh : graphB n es with
  | false => rfl
  | true =>
    have := (graphB_iff hh).2.2.2 e (List.mem_of_getElem? h)
    rw [he] at this
    cases this
theorem all_step {n : Int} {es : List GE} {k : Nat} {e : GE} (h : es[k]? = some e) (ha : ∀ x ∈ es.take k, edgeB n x = true) (he : edgeB n e = true) : ∀ x ∈ es.take (k + 1), edgeB n x = true := by
  rw [g_take es k e h]
  intro x hx
  rcases List.mem_append.1 hx with hx | hx
  · exact ha x hx
  · rw [List.mem_singleton.1 hx]; exact he

/-- Cells of a block that hold an edge. -/
structure EBox (w : World) (b : Nat) (e : GE) : Prop where
  lt : b < w.heap.size
  c0 : w.cell? ⟨b, 0, none⟩ = some (.int .i64 e.f)
  c1 : w.cell? ⟨b, 1, none⟩ = some (.int .i64 e.t)
  c2 : w.cell? ⟨b, 2, none⟩ = some (.int .i64 e.w)
/-- A block that holds a graph. -/
structure NBox (w : World) (b : Nat) (N : Int) (A : Option Addr) (n c : Nat) : Prop where
  lt : b < w.heap.size
  c0 : w.cell? ⟨b, 0, none⟩ = some (.int .i64 N)
  c1 : w.cell? ⟨b, 1, none⟩ = some (.slice A n c)
section
variable {w w' : World} {b n c : Nat} {N : Int} {A : Option Addr} {e : GE}
theorem NBox.keep (h : NBox w b N A n c) (hs : w.heap.size ≤ w'.heap.size) (hk : w'.heap[b]? = w.heap[b]?) : NBox w' b N A n c :=
  ⟨Nat.lt_of_lt_of_le h.lt hs, (World.cell?_of_block (a := ⟨b, 0, none⟩) hk).trans h.c0, (World.cell?_of_block (a := ⟨b, 1, none⟩) hk).trans h.c1⟩
theorem NBox.below (h : NBox w b N A n c) (hb : Below w.heap.size w w') : NBox w' b N A n c := h.keep hb.size (hb.block b h.lt)
theorem NBox.new (w : World) (N : Int) (A : Option Addr) (n c : Nat) (t : TypeId) : NBox (w.alloc (.cells #[.int .i64 N, .slice A n c] t)) w.heap.size N A n c := ⟨by simp, by simp, by simp⟩
theorem NBox.alloc (h : NBox w b N A n c) (o : Obj) : NBox (w.alloc o) b N A n c := h.below (below_a1 w o)
end

set_option maxRecDepth 10000 in
set_option maxHeartbeats 1000000 in
theorem implEdgeOk (e : GE) (N : Int) (w : World) :
    Calls Try.prog 121 #[.agg #[.int .i64 e.f, .int .i64 e.t, .int .i64 e.w], .int .i64 N] w (GTell w (edgeB N e)) := by
  obtain ⟨f, t, x⟩ := e
  by_cases h1 : 0 ≤ f
  · by_cases h2 : f < N
    · by_cases h3 : 0 ≤ t
      · by_cases h4 : t < N
        · by_cases h5 : 0 ≤ x
          · by_cases h6 : x ≤ 1000
            · have HV : Hid (edgeB N ⟨f, t, x⟩ = true) := Lib.hid (by simp [edgeB, h1, h2, h3, h4, h5, h6])
              go_enter Try.func121, Try.ntmps121
              go_wp2
              go_ret
              rw [HV.out]
              exact ⟨g_bool (by simp <;> omega), below_a1 _ _⟩
            · have HV : Hid (edgeB N ⟨f, t, x⟩ = false) := Lib.hid (by simp [edgeB, h6])
              go_enter Try.func121, Try.ntmps121
              go_wp2
              go_ret
              rw [HV.out]
              exact ⟨g_bool (by first | rfl | (simp <;> omega)), below_a1 _ _⟩
          · have HV : Hid (edgeB N ⟨f, t, x⟩ = false) := Lib.hid (by simp [edgeB, h5])
            go_enter Try.func121, Try.ntmps121
            go_wp2
            go_ret
            rw [HV.out]
            exact ⟨g_bool (by first | rfl | (simp <;> omega)), below_a1 _ _⟩
        · have HV : Hid (edgeB N ⟨f, t, x⟩ = false) := Lib.hid (by simp [edgeB, h4])
          go_enter Try.func121, Try.ntmps121
          go_wp2
          go_ret
          rw [HV.out]
          exact ⟨g_bool (by first | rfl | (simp <;> omega)), below_a1 _ _⟩
      · have HV : Hid (edgeB N ⟨f, t, x⟩ = false) := Lib.hid (by simp [edgeB, h3])
        go_enter Try.func121, Try.ntmps121
        go_wp2
        go_ret
        rw [HV.out]
        exact ⟨g_bool (by first | rfl | (simp <;> omega)), below_a1 _ _⟩
    · have HV : Hid (edgeB N ⟨f, t, x⟩ = false) := Lib.hid (by simp [edgeB, h2])
      go_enter Try.func121, Try.ntmps121
      go_wp2
      go_ret
      rw [HV.out]
      exact ⟨g_bool (by first | rfl | (simp <;> omega)), below_a1 _ _⟩
  · have HV : Hid (edgeB N ⟨f, t, x⟩ = false) := Lib.hid (by simp [edgeB, h1])
    go_enter Try.func121, Try.ntmps121
    go_wp2
    go_ret
    rw [HV.out]
    exact ⟨g_bool (by first | rfl | (simp <;> omega)), below_a1 _ _⟩

set_option maxRecDepth 10000 in
set_option maxHeartbeats 2000000 in
theorem implGraphOk (N : Int) (A : Option Addr) (n c : Nat) (es : List GE) (w : World) (hr : SlG w A n es) (hn : n ≤ 1048576) :
    Calls Try.prog 74 #[.agg #[.int .i64 N, .slice A n c]] w (GTell w (graphB N es)) := by
  have hel := hr.len
  by_cases h1 : 0 ≤ N
  · by_cases h2 : N ≤ 150
    · by_cases h3 : n ≤ 400
      · have CE := Lib.hid (fun e W => implEdgeOk e N W)
        have HR := Lib.hid hr
        have HG : Hid ((∀ x ∈ es, edgeB N x = true) → graphB N es = true) := Lib.hid (fun hh => by
          unfold graphB
          rw [Bool.and_eq_true, decide_eq_true_iff, List.all_eq_true]
          exact ⟨⟨h1, h2, by omega⟩, hh⟩)
        have HEL := Lib.hid hel
        clear hr hel
        go_enter Try.func74, Try.ntmps74
        go_wp2
        have X0 := Lib.hid (NBox.new w N A n c 58)
        have HB0 := Lib.hid (below_a1 w (.cells #[.int .i64 N, .slice A n c] 58))
        go_loopw [22] (fun i wr => ∃ k : Nat, k ≤ n ∧ i = .int .i64 k ∧ Hid (NBox wr w.heap.size N A n c) ∧ Hid (Below w.heap.size w wr) ∧ Hid (∀ x ∈ es.take k, edgeB N x = true)) (fun i _ => n - (intOf i).toNat)
        case atStart => exact ⟨0, Nat.zero_le _, rfl, X0, HB0, Lib.hid (by simp)⟩
        case round =>
          clear X0 HB0
          obtain ⟨k, hk, rfl, hx, hbel, hall⟩ := hrel
          by_cases hlt : k < n
          · obtain ⟨b, off, e, rfl, hbw, he, c0, c1, c2⟩ := HR.out.at_ hlt
            have c0 := (hbel.out.cell (p := ⟨b, off + k * 3, none⟩) hbw).trans c0
            have c1 := (hbel.out.cell (p := ⟨b, off + k * 3 + 1, none⟩) hbw).trans c1
            have c2 := (hbel.out.cell (p := ⟨b, off + k * 3 + 2, none⟩) hbw).trans c2
            obtain ⟨l0, x0, x1⟩ := hx.out
            have hwle : w.heap.size ≤ wr.heap.size := hbel.out.size
            go_wp2_with fail
            refine (CE.out e _).mono ?_
            rintro e1 w1 ⟨rfl, hb1⟩
            have HB1 := Lib.hid (g_chain (below_a1 wr (.cells #[.int .i64 e.f, .int .i64 e.t, .int .i64 e.w] 145)) hb1)
            have X1 := Lib.hid (hx.out.below HB1.out)
            clear hb1 c0 c1 c2 l0 x0 x1
            cases hv : edgeB N e with
            | true =>
              go_wp2
              go_roundw
              case rel => exact ⟨k + 1, by omega, by go_num, X1, Lib.hid (g_chain hbel.out HB1.out), Lib.hid (all_step he.out hall.out hv)⟩
              case measure => simp [intOf]; omega
            | false =>
              have HV := Lib.hid (graphB_no he.out hv)
              go_wp2
              go_ret
              rw [HV.out]
              exact ⟨rfl, g_chain hbel.out HB1.out⟩
          · obtain rfl : k = n := by omega
            have HV := Lib.hid (HG.out (fun x hx => hall.out x (by rw [List.take_of_length_le (by rw [HEL.out]; exact Nat.le_refl _)]; exact hx)))
            go_wp2
            go_ret
            rw [HV.out]
            exact ⟨rfl, hbel.out⟩
      · have HV : Hid (graphB N es = false) := Lib.hid (by simp [graphB, hel, h3])
        clear hr hel
        go_enter Try.func74, Try.ntmps74
        go_wp2
        go_ret
        rw [HV.out]
        exact ⟨g_bool (by first | rfl | (simp <;> omega)), below_a1 _ _⟩
    · have HV : Hid (graphB N es = false) := Lib.hid (by simp [graphB, h2])
      clear hr hel
      go_enter Try.func74, Try.ntmps74
      go_wp2
      go_ret
      rw [HV.out]
      exact ⟨g_bool (by first | rfl | (simp <;> omega)), below_a1 _ _⟩
  · have HV : Hid (graphB N es = false) := Lib.hid (by simp [graphB, h1])
    clear hr hel
    go_enter Try.func74, Try.ntmps74
    go_wp2
    go_ret
    rw [HV.out]
    exact ⟨g_bool (by first | rfl | (simp <;> omega)), below_a1 _ _⟩
end Go.Proofs.Ytpgnappddddlpaa
