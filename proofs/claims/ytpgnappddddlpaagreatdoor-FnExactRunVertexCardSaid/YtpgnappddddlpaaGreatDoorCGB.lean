/- Words that all texts on lists of records of three numbers share (no condition). // Words that all texts on graphs share (no condition). // Graphs: valid ones as data, and the contracts of the model's and the program's functions that ask it. Condition: at most 2^20 edges. // Runs in memory as data: a run, its views, one vertex, one iteration (no program; no condition). // A block of cells that is known whole (plain lemmas over the model; no condition). // Writings in blocks of a set alone, and what a row of the call's own has for a block (plain lemmas over the model; no condition). // Rows of the call's own and blocks that are known whole, beside one another (plain lemmas over the model; no condition). // A run in memory: eight cells, two lists of numbers and a list of bytes, read or owned (plain lemmas over the model; no condition). // The contracts of the two helpers of the laws: 'toByteS' makes a copy of a slice of bytes in new memory; 'eqByteS' of two slices that read as the same bytes returns true and writes nothing. Condition: at most 2^21 bytes. // Words for data with depth (plain lemmas over the model; no condition): 'RdR lo hi w s cs d': the cells cs read in w as the datum d of the shape s, and every row that is looked into lies in a block from lo on and below hi; such a reading is kept where these blocks are. -/
import Derived.Test.YtpgnappddddlpaaGreatDoorCGA
import Derived.Deep.QuietTactic
import Derived.Deep.RegionWith
import Derived.RegionTactic
import Derived.BigQuiet
import Derived.RangeFuncBox
import Derived.WalkKit
import Derived.Below
import Derived.Laws.Rows
import Derived.Laws.OwnMore
import Derived.Deep.Draws
import Derived.Lib.Hide
import Derived.ChangeArms
import Derived.DataReads
namespace Go.Proofs.YtpgnappddddlpaaGreatDoor
open Go.RowKit

theorem Tryz.infoInt : (Tryz.prog.info? 3).map (fun i => (i.zero, i.size, i.bytes)) = some (some (.int .i64 0), 1, 8) := by kernel_rfl

def GNum (w : World) (b : Int) (e : Ending) (w' : World) : Prop := e = .returned (.int .i64 b) ∧ Below w.heap.size w w'
def GTell (w : World) (b : Bool) (e : Ending) (w' : World) : Prop := e = .returned (.bool b) ∧ Below w.heap.size w w'
def leftG (left : Int) (n : Nat) : Int := if (n : Int) ≤ left then left - n else -1
theorem leftG_pos {left : Int} {n : Nat} (h : (n : Int) ≤ left) : leftG left n = left - n := if_pos h
theorem leftG_neg {left : Int} {n : Nat} (h : left < (n : Int)) : leftG left n = -1 := if_neg (by omega)
theorem g_int {k : IntKind} {a b : Int} (h : a = b) : Ending.returned (.int k a) = .returned (.int k b) := by rw [h]
theorem g_bool {a b : Bool} (h : a = b) : Ending.returned (.bool a) = .returned (.bool b) := by rw [h]

def zeroG : GE := ⟨0, 0, 0⟩
theorem rep_succ (n k : Nat) (h : k < n) : List.replicate (n - k) zeroG = zeroG :: List.replicate (n - (k + 1)) zeroG := by
  rw [show n - k = (n - (k + 1)) + 1 by omega, List.replicate_succ]

theorem own_lowG {w : World} {lo e size n : Nat} {v : Value} {xs : List Value} (h : w.ownsRow lo e size v n xs) {p : Addr} (hp : p.block < lo) (u : Value) : (w.setCell p u).ownsRow lo e size v n xs := by
  obtain ⟨h1, h2⟩ := h
  refine ⟨h1, ?_⟩
  rcases h2 with h2 | ⟨g, cap, cur, e, hb, hg, r⟩
  · exact .inl h2
  · exact .inr ⟨g, cap, cur, e, hb, (Below.heap_setCell w p u g (by omega)).trans hg, r⟩
theorem own_monoG {w : World} {lo lo' e size n : Nat} {v : Value} {xs : List Value} (h : w.ownsRow lo e size v n xs) (hl : lo' ≤ lo) : w.ownsRow lo' e size v n xs := by
  obtain ⟨h1, h2⟩ := h
  refine ⟨h1, ?_⟩
  rcases h2 with h2 | ⟨g, cap, cur, e, hb, r⟩
  · exact .inl h2
  · exact .inr ⟨g, cap, cur, e, by omega, r⟩

end Go.Proofs.YtpgnappddddlpaaGreatDoor
namespace Go.Proofs.YtpgnappddddlpaaGreatDoor
open Go.RowKit

theorem Tryz.infoEdge : (Tryz.prog.info? 86).map (fun i => (i.zero, i.size, i.bytes)) = some (some (.agg #[.int .i64 0, .int .i64 0, .int .i64 0]), 3, 24) := by kernel_rfl

/-- New edges. -/
def MadeG (w : World) (es : List GE) (e : Ending) (w' : World) : Prop :=
  ∃ A c, e = .returned (.slice A es.length c) ∧ w'.ownsRow w.heap.size 86 3 (.slice A es.length c) es.length (es.flatMap GE.cells) ∧ Below w.heap.size w w'
/-- A new graph. -/
def MadeGr (w : World) (N : Int) (es : List GE) (e : Ending) (w' : World) : Prop :=
  ∃ A c, e = .returned (.agg #[.int .i64 N, .slice A es.length c]) ∧ w'.ownsRow w.heap.size 86 3 (.slice A es.length c) es.length (es.flatMap GE.cells) ∧ Below w.heap.size w w'
end Go.Proofs.YtpgnappddddlpaaGreatDoor
namespace Go.Proofs.YtpgnappddddlpaaGreatDoor
open Go.RowKit

def edgeB (n : Int) (e : GE) : Bool := decide (0 ≤ e.f ∧ e.f < n ∧ 0 ≤ e.t ∧ e.t < n ∧ 0 ≤ e.w ∧ e.w ≤ 1000)
def graphB (n : Int) (es : List GE) : Bool := decide (0 ≤ n ∧ n ≤ 150 ∧ es.length ≤ 400) && es.all (edgeB n)
theorem edgeB_iff {n : Int} {e : GE} (h : edgeB n e = true) : 0 ≤ e.f ∧ e.f < n ∧ 0 ≤ e.t ∧ e.t < n ∧ 0 ≤ e.w ∧ e.w ≤ 1000 := of_decide_eq_true h
theorem graphB_iff {n : Int} {es : List GE} (h : graphB n es = true) : 0 ≤ n ∧ n ≤ 150 ∧ es.length ≤ 400 ∧ ∀ e ∈ es, edgeB n e = true := by
  unfold graphB at h
  rw [Bool.and_eq_true, decide_eq_true_iff, List.all_eq_true] at h
  exact ⟨h.1.1, h.1.2.1, h.1.2.2, h.2⟩
theorem graphB_no {n : Int} {es : List GE} {k : Nat} {e : GE} (h : es[k]? = some e) (he : edgeB n e = false) : graphB n es = false := by
  cases hh : graphB n es with
  | false => rfl
  | true =>
    have := (graphB_iff hh).2.2.2 e (List.mem_of_getElem? h)
    rw [he] at this
    cases this
theorem all_step {n : Int} {es : List GE} {k : Nat} {e : GE} (h : es[k]? = some e) (ha : ∀ x ∈ es.take k, edgeB n x = true) (he : edgeB n e = true) : ∀ x ∈ es.take (k + 1), edgeB n x = true := by
  rw [g_take es k e h]
  intro x hx
  rcases List.mem_append.1 hx with hx | hx
  · exact ha x hx
  · rw [List.mem_singleton.1 hx]; exact he

/-- A block that holds a graph. -/
structure NBox (w : World) (b : Nat) (N : Int) (A : Option Addr) (n c : Nat) : Prop where
  lt : b < w.heap.size
  c0 : w.cell? ⟨b, 0, none⟩ = some (.int .i64 N)
  c1 : w.cell? ⟨b, 1, none⟩ = some (.slice A n c)
section
variable {w w' : World} {b n c : Nat} {N : Int} {A : Option Addr} {e : GE}
theorem NBox.keep (h : NBox w b N A n c) (hs : w.heap.size ≤ w'.heap.size) (hk : w'.heap[b]? = w.heap[b]?) : NBox w' b N A n c :=
  ⟨Nat.lt_of_lt_of_le h.lt hs, (World.cell?_of_block (a := ⟨b, 0, none⟩) hk).trans h.c0, (World.cell?_of_block (a := ⟨b, 1, none⟩) hk).trans h.c1⟩
theorem NBox.below (h : NBox w b N A n c) (hb : Below w.heap.size w w') : NBox w' b N A n c := h.keep hb.size (hb.block b h.lt)
theorem NBox.new (w : World) (N : Int) (A : Option Addr) (n c : Nat) (t : TypeId) : NBox (w.alloc (.cells #[.int .i64 N, .slice A n c] t)) w.heap.size N A n c := ⟨by simp, by simp, by simp⟩
theorem NBox.alloc (h : NBox w b N A n c) (o : Obj) : NBox (w.alloc o) b N A n c := h.below (below_a1 w o)
end

set_option maxRecDepth 10000 in
set_option maxHeartbeats 1000000 in
theorem implEdgeOk (e : GE) (N : Int) (w : World) :
    Calls Tryz.prog 74 #[.agg #[.int .i64 e.f, .int .i64 e.t, .int .i64 e.w], .int .i64 N] w (GTell w (edgeB N e)) := by
  obtain ⟨f, t, x⟩ := e
  by_cases h1 : 0 ≤ f
  · by_cases h2 : f < N
    · by_cases h3 : 0 ≤ t
      · by_cases h4 : t < N
        · by_cases h5 : 0 ≤ x
          · by_cases h6 : x ≤ 1000
            · have HV : Hid (edgeB N ⟨f, t, x⟩ = true) := Lib.hid (by simp [edgeB, h1, h2, h3, h4, h5, h6])
              go_enter Tryz.func74, Tryz.ntmps74
              go_wp2
              go_ret
              rw [HV.out]
              exact ⟨g_bool (by simp <;> omega), below_a1 _ _⟩
            · have HV : Hid (edgeB N ⟨f, t, x⟩ = false) := Lib.hid (by simp [edgeB, h6])
              go_enter Tryz.func74, Tryz.ntmps74
              go_wp2
              go_ret
              rw [HV.out]
              exact ⟨g_bool (by first | rfl | (simp <;> omega)), below_a1 _ _⟩
          · have HV : Hid (edgeB N ⟨f, t, x⟩ = false) := Lib.hid (by simp [edgeB, h5])
            go_enter Tryz.func74, Tryz.ntmps74
            go_wp2
            go_ret
            rw [HV.out]
            exact ⟨g_bool (by first | rfl | (simp <;> omega)), below_a1 _ _⟩
        · have HV : Hid (edgeB N ⟨f, t, x⟩ = false) := Lib.hid (by simp [edgeB, h4])
          go_enter Tryz.func74, Tryz.ntmps74
          go_wp2
          go_ret
          rw [HV.out]
          exact ⟨g_bool (by first | rfl | (simp <;> omega)), below_a1 _ _⟩
      · have HV : Hid (edgeB N ⟨f, t, x⟩ = false) := Lib.hid (by simp [edgeB, h3])
        go_enter Tryz.func74, Tryz.ntmps74
        go_wp2
        go_ret
        rw [HV.out]
        exact ⟨g_bool (by first | rfl | (simp <;> omega)), below_a1 _ _⟩
    · have HV : Hid (edgeB N ⟨f, t, x⟩ = false) := Lib.hid (by simp [edgeB, h2])
      go_enter Tryz.func74, Tryz.ntmps74
      go_wp2
      go_ret
      rw [HV.out]
      exact ⟨g_bool (by first | rfl | (simp <;> omega)), below_a1 _ _⟩
  · have HV : Hid (edgeB N ⟨f, t, x⟩ = false) := Lib.hid (by simp [edgeB, h1])
    go_enter Tryz.func74, Tryz.ntmps74
    go_wp2
    go_ret
    rw [HV.out]
    exact ⟨g_bool (by first | rfl | (simp <;> omega)), below_a1 _ _⟩

set_option maxRecDepth 10000 in
set_option maxHeartbeats 2000000 in
theorem implGraphOk (N : Int) (A : Option Addr) (n c : Nat) (es : List GE) (w : World) (hr : SlG w A n es) (hn : n ≤ 1048576) :
    Calls Tryz.prog 57 #[.agg #[.int .i64 N, .slice A n c]] w (GTell w (graphB N es)) := by
  have hel := hr.len
  by_cases h1 : 0 ≤ N
  · by_cases h2 : N ≤ 150
    · by_cases h3 : n ≤ 400
      · have CE := Lib.hid (fun e W => implEdgeOk e N W)
        have HR := Lib.hid hr
        have HG : Hid ((∀ x ∈ es, edgeB N x = true) → graphB N es = true) := Lib.hid (fun hh => by
          unfold graphB
          rw [Bool.and_eq_true, decide_eq_true_iff, List.all_eq_true]
          exact ⟨⟨h1, h2, by omega⟩, hh⟩)
        have HEL := Lib.hid hel
        clear hr hel
        go_enter Tryz.func57, Tryz.ntmps57
        go_wp2
        have X0 := Lib.hid (NBox.new w N A n c 44)
        have HB0 := Lib.hid (below_a1 w (.cells #[.int .i64 N, .slice A n c] 44))
        go_loopw [22] (fun i wr => ∃ k : Nat, k ≤ n ∧ i = .int .i64 k ∧ Hid (NBox wr w.heap.size N A n c) ∧ Hid (Below w.heap.size w wr) ∧ Hid (∀ x ∈ es.take k, edgeB N x = true)) (fun i _ => n - (intOf i).toNat)
        case atStart => exact ⟨0, Nat.zero_le _, rfl, X0, HB0, Lib.hid (by simp)⟩
        case round =>
          clear X0 HB0
          obtain ⟨k, hk, rfl, hx, hbel, hall⟩ := hrel
          by_cases hlt : k < n
          · obtain ⟨b, off, e, rfl, hbw, he, c0, c1, c2⟩ := HR.out.at_ hlt
            have c0 := (hbel.out.cell (p := ⟨b, off + k * 3, none⟩) hbw).trans c0
            have c1 := (hbel.out.cell (p := ⟨b, off + k * 3 + 1, none⟩) hbw).trans c1
            have c2 := (hbel.out.cell (p := ⟨b, off + k * 3 + 2, none⟩) hbw).trans c2
            obtain ⟨l0, x0, x1⟩ := hx.out
            have hwle : w.heap.size ≤ wr.heap.size := hbel.out.size
            go_wp2_with fail
            refine (CE.out e _).mono ?_
            rintro e1 w1 ⟨rfl, hb1⟩
            have HB1 := Lib.hid (g_chain (below_a1 wr (.cells #[.int .i64 e.f, .int .i64 e.t, .int .i64 e.w] 86)) hb1)
            have X1 := Lib.hid (hx.out.below HB1.out)
            clear hb1 c0 c1 c2 l0 x0 x1
            cases hv : edgeB N e with
            | true =>
              go_wp2
              go_roundw
              case rel => exact ⟨k + 1, by omega, by go_num, X1, Lib.hid (g_chain hbel.out HB1.out), Lib.hid (all_step he.out hall.out hv)⟩
              case measure => simp [intOf]; omega
            | false =>
              have HV := Lib.hid (graphB_no he.out hv)
              go_wp2
              go_ret
              rw [HV.out]
              exact ⟨rfl, g_chain hbel.out HB1.out⟩
          · obtain rfl : k = n := by omega
            have HV := Lib.hid (HG.out (fun x hx => hall.out x (by rw [List.take_of_length_le (by rw [HEL.out]; exact Nat.le_refl _)]; exact hx)))
            go_wp2
            go_ret
            rw [HV.out]
            exact ⟨rfl, hbel.out⟩
      · have HV : Hid (graphB N es = false) := Lib.hid (by simp [graphB, hel, h3])
        clear hr hel
        go_enter Tryz.func57, Tryz.ntmps57
        go_wp2
        go_ret
        rw [HV.out]
        exact ⟨g_bool (by first | rfl | (simp <;> omega)), below_a1 _ _⟩
    · have HV : Hid (graphB N es = false) := Lib.hid (by simp [graphB, h2])
      clear hr hel
      go_enter Tryz.func57, Tryz.ntmps57
      go_wp2
      go_ret
      rw [HV.out]
      exact ⟨g_bool (by first | rfl | (simp <;> omega)), below_a1 _ _⟩
  · have HV : Hid (graphB N es = false) := Lib.hid (by simp [graphB, h1])
    clear hr hel
    go_enter Tryz.func57, Tryz.ntmps57
    go_wp2
    go_ret
    rw [HV.out]
    exact ⟨g_bool (by first | rfl | (simp <;> omega)), below_a1 _ _⟩
end Go.Proofs.YtpgnappddddlpaaGreatDoor
namespace Go.Proofs.YtpgnappddddlpaaGreatDoor
open Go.RowKit

structure RD where
  p : Int
  s : Int
  it : Int
  dn : Bool
  vs : List Int
  ev : List Int
  nn : Int
  nx : List Nat
def runB (N : Int) (G : List GE) (r : RD) : Bool :=
  graphB N G && (jobB N r.p r.s && (decide (0 ≤ r.it ∧ r.it ≤ 1000) && (decide ((r.vs.length : Int) = N ∧ r.ev.length = G.length) && (valsB r.vs && (valsB r.ev && (setB r.nn r.nx && (decide (r.nn = N) && (r.dn == decide ((memsB r.nn r.nx).length = 0)))))))) )
def edgeAt (G : List GE) (i : Nat) : GE := G.getD i zeroG
def otherE (e : GE) (v : Int) : Int := if e.f = v then e.t else e.f
def incB (v : Int) (e : GE) : Bool := decide (e.f = v) || decide (e.t = v)
def viewE (v : Int) (e : GE) (x : Int) : VE := ⟨decide (e.t = v), decide (e.f = v), e.w, x⟩
def idxT (G : List GE) (v : Int) (k : Nat) : List Nat := (List.range k).filter fun i => incB v (edgeAt G i)
def viewAt (G : List GE) (E : List Int) (v : Int) (i : Nat) : VE := viewE v (edgeAt G i) (E.getD i 0)
def viewsT (G : List GE) (E : List Int) (v : Int) (k : Nat) : List VE := (idxT G v k).map (viewAt G E v)
/-- What an iteration works on: the values, those of the edges, the next set and the present one. -/
structure ID where
  vs : List Int
  ev : List Int
  nx : List Nat
  nw : List Nat
def estep (N : Int) (G : List GE) (v : Int) (f : Nat → Int) (S : ID) (i : Nat) : ID :=
  if f i = S.ev.getD i 0 then S
  else if v < otherE (edgeAt G i) v then ⟨S.vs, S.ev.set i (f i), S.nx, withX N S.nw (otherE (edgeAt G i) v)⟩
  else ⟨S.vs, S.ev.set i (f i), withX N S.nx (otherE (edgeAt G i) v), S.nw⟩
def newAt (p : Int) (G : List GE) (S : ID) (v : Nat) : Int := newVal p (S.vs.getD v 0) (viewsT G S.ev v G.length)
def edgeNew (p : Int) (G : List GE) (S : ID) (v : Nat) (i : Nat) : Int := newEdge p (newAt p G S v) (outsN (viewsT G S.ev v G.length)) (viewAt G S.ev v i)
def vstep (p N : Int) (G : List GE) (S : ID) (v : Nat) : ID :=
  (idxT G v G.length).foldl (estep N G v (edgeNew p G S v)) ⟨S.vs.set v (newAt p G S v), S.ev, S.nx, S.nw⟩
/-! ### which edges a vertex sees -/
theorem idx_mem {G : List GE} {v : Int} {k i : Nat} : i ∈ idxT G v k ↔ i < k ∧ incB v (edgeAt G i) = true := by
  unfold idxT
  rw [List.mem_filter, List.mem_range]
theorem idx_nodup (G : List GE) (v : Int) (k : Nat) : (idxT G v k).Nodup := List.Pairwise.sublist List.filter_sublist List.nodup_range
theorem idx_step (G : List GE) (v : Int) (k : Nat) : idxT G v (k + 1) = if incB v (edgeAt G k) then idxT G v k ++ [k] else idxT G v k := by
  unfold idxT
  rw [List.range_succ, List.filter_append]
  cases h : incB v (edgeAt G k) <;> simp [h]
theorem idx_len (G : List GE) (v : Int) (k : Nat) : (idxT G v k).length ≤ k := by
  unfold idxT
  exact Nat.le_trans (List.length_filter_le _ _) (by rw [List.length_range]; exact Nat.le_refl _)
theorem edgeAt_mem {G : List GE} {i : Nat} (h : i < G.length) : edgeAt G i ∈ G := by
  unfold edgeAt
  rw [List.getD_eq_getElem?_getD, List.getElem?_eq_getElem h]
  exact List.getElem_mem h
theorem edge_in {N : Nat} {G : List GE} (hG : graphB (N : Int) G = true) {i : Nat} (h : i < G.length) : 0 ≤ (edgeAt G i).f ∧ (edgeAt G i).f < N ∧ 0 ≤ (edgeAt G i).t ∧ (edgeAt G i).t < N ∧ 0 ≤ (edgeAt G i).w ∧ (edgeAt G i).w ≤ 1000 := edgeB_iff ((graphB_iff hG).2.2.2 _ (edgeAt_mem h))
theorem other_in {N : Nat} {G : List GE} (hG : graphB (N : Int) G = true) {i : Nat} (h : i < G.length) (v : Int) : 0 ≤ otherE (edgeAt G i) v ∧ otherE (edgeAt G i) v < N := by
  have := edge_in hG h
  unfold otherE
  split <;> omega

/-! ### what stands for a state -/
structure Good (p : Int) (N : Nat) (G : List GE) (S : ID) : Prop where
  vl : S.vs.length = N
  el : S.ev.length = G.length
  vv : ∀ x ∈ S.vs, 0 ≤ x ∧ x ≤ 1099511627776
  ee : ∀ x ∈ S.ev, 0 ≤ x ∧ x ≤ 1099511627776
  nx : setB (N : Int) S.nx = true
  nw : setB (N : Int) S.nw = true
  nxs : ∀ x ∈ S.nx, x < 256
  nws : ∀ x ∈ S.nw, x < 256
theorem getD_in {l : List Int} {P : Int → Prop} (h : ∀ x ∈ l, P x) {i : Nat} (hi : i < l.length) : P (l.getD i 0) := by
  rw [List.getD_eq_getElem?_getD, List.getElem?_eq_getElem hi]
  exact h _ (List.getElem_mem hi)
theorem view_ok {p : Int} {N : Nat} {G : List GE} {S : ID} (hG : graphB (N : Int) G = true) (h : Good p N G S) {v : Int} {i : Nat} (hi : i ∈ idxT G v G.length) : (viewAt G S.ev v i).ok = true := by
  obtain ⟨h1, h2⟩ := idx_mem.1 hi
  have h3 := edge_in hG h1
  have h4 := getD_in h.ee (i := i) (by rw [h.el]; exact h1)
  unfold incB at h2
  unfold viewAt viewE VE.ok valB
  simp only [Bool.and_eq_true, Bool.or_eq_true, decide_eq_true_eq] at h2 ⊢
  exact ⟨h2.symm, ⟨h3.2.2.2.2.1, h3.2.2.2.2.2⟩, h4⟩
theorem views_ok {p : Int} {N : Nat} {G : List GE} {S : ID} (hG : graphB (N : Int) G = true) (h : Good p N G S) (v : Int) : ∀ e ∈ viewsT G S.ev v G.length, e.ok = true := by
  intro e he
  obtain ⟨i, hi, rfl⟩ := List.mem_map.1 he
  exact view_ok hG h hi
theorem views_len (G : List GE) (E : List Int) (v : Int) (k : Nat) : (viewsT G E v k).length ≤ k := by unfold viewsT; rw [List.length_map]; exact idx_len _ _ _
/-- An update in a good state is a valid one. -/
theorem upd_good {p : Int} {N : Nat} {G : List GE} {S : ID} (hp : 1 ≤ p ∧ p ≤ 4) (hG : graphB (N : Int) G = true) (h : Good p N G S) {v : Nat} (hv : v < N) : updB p (v : Int) (S.vs.getD v 0) (viewsT G S.ev v G.length) = true := by
  have h1 := graphB_iff hG
  have h2 := getD_in h.vv (i := v) (by rw [h.vl]; exact hv)
  have h3 := views_len G S.ev v G.length
  unfold updB progB vtxB valB viewsB
  simp only [Bool.and_eq_true, decide_eq_true_eq, List.all_eq_true]
  exact ⟨hp, by omega, h2, by omega, views_ok hG h v⟩

/-! ### one edge after the other -/
theorem set_getD (l : List Int) (i j : Nat) (x : Int) (hi : i < l.length) : (l.set i x).getD j 0 = if j = i then x else l.getD j 0 := by
  rw [List.getD_eq_getElem?_getD, List.getD_eq_getElem?_getD, List.getElem?_set]
  by_cases h : i = j
  · subst h; rw [if_pos rfl, if_pos hi, if_pos rfl]; rfl
  · rw [if_neg h, if_neg (fun e => h e.symm)]
theorem set_all {l : List Int} {P : Int → Prop} (h : ∀ x ∈ l, P x) (i : Nat) {y : Int} (hy : P y) : ∀ x ∈ l.set i y, P x := fun x hx => by
  rcases List.mem_or_eq_of_mem_set hx with h1 | rfl
  · exact h x h1
  · exact hy
theorem with_is {N : Nat} {ys : List Nat} (h : setB (N : Int) ys = true) {u : Int} (hu : 0 ≤ u ∧ u < N) : withX (N : Int) ys u = addV ys u.toNat := by
  unfold withX
  rw [if_pos h, if_pos hu]
theorem with_ok {N : Nat} {ys : List Nat} (h : setB (N : Int) ys = true) {u : Int} (hu : 0 ≤ u ∧ u < N) : setB (N : Int) (withX (N : Int) ys u) = true := by
  rw [with_is h hu]
  exact setB_add h (by rw [Int.toNat_natCast]; omega)
theorem with_bit {N : Nat} {ys : List Nat} (h : setB (N : Int) ys = true) {u : Int} (hu : 0 ≤ u ∧ u < N) (q : Nat) : bitN (withX (N : Int) ys u) q = true ↔ ((q : Int) = u ∨ bitN ys q = true) := by
  rw [with_is h hu, bit_addV (by rw [(setB_dim h).2.2]; exact lt_bytes (by rw [Int.toNat_natCast]; omega)), Bool.or_eq_true, decide_eq_true_iff]
  constructor
  · rintro (h1 | h1)
    · left; omega
    · exact .inr h1
  · rintro (h1 | h1)
    · left; omega
    · exact .inr h1
structure Stepped (p : Int) (N : Nat) (G : List GE) (v : Int) (f : Nat → Int) (J : List Nat) (S T : ID) : Prop where
  vs : T.vs = S.vs
  el : T.ev.length = S.ev.length
  ev : ∀ j, T.ev.getD j 0 = if j ∈ J then f j else S.ev.getD j 0
  nx : setB (N : Int) T.nx = true
  nw : setB (N : Int) T.nw = true
  nxs : (∀ x ∈ S.nx, x < 256) → ∀ x ∈ T.nx, x < 256
  nws : (∀ x ∈ S.nw, x < 256) → ∀ x ∈ T.nw, x < 256
  bw : ∀ q, bitN T.nw q = true ↔ (bitN S.nw q = true ∨ ∃ j ∈ J, f j ≠ S.ev.getD j 0 ∧ otherE (edgeAt G j) v = (q : Int) ∧ v < (q : Int))
  bx : ∀ q, bitN T.nx q = true ↔ (bitN S.nx q = true ∨ ∃ j ∈ J, f j ≠ S.ev.getD j 0 ∧ otherE (edgeAt G j) v = (q : Int) ∧ ¬ v < (q : Int))
theorem fold_step {p : Int} {N : Nat} {G : List GE} (hG : graphB (N : Int) G = true) (v : Int) (f : Nat → Int) : ∀ (J : List Nat) (S : ID), J.Nodup → (∀ i ∈ J, i < S.ev.length ∧ i < G.length) → setB (N : Int) S.nx = true → setB (N : Int) S.nw = true → Stepped p N G v f J S (J.foldl (estep (N : Int) G v f) S)
  | [], S, _, _, h1, h2 => ⟨rfl, rfl, fun j => by simp, h1, h2, fun h => h, fun h => h, fun q => by simp, fun q => by simp⟩
  | i :: J, S, hd, hl, h1, h2 => by
    rw [List.foldl_cons]
    obtain ⟨hi, hd'⟩ := List.nodup_cons.1 hd
    have hil := hl i List.mem_cons_self
    have ho := other_in hG hil.2 v
    by_cases hq : f i = S.ev.getD i 0
    · have e : estep (N : Int) G v f S i = S := by unfold estep; rw [if_pos hq]
      rw [e]
      have ih := fold_step (p := p) hG v f J S hd' (fun j hj => hl j (List.mem_cons_of_mem _ hj)) h1 h2
      refine ⟨ih.vs, ih.el, fun j => ?_, ih.nx, ih.nw, ih.nxs, ih.nws, fun q => ?_, fun q => ?_⟩
      · rw [ih.ev j]
        by_cases hj : j = i
        · subst hj; rw [if_neg hi, if_pos List.mem_cons_self, hq]
        · simp [hj]
      · rw [ih.bw q]
        constructor
        · rintro (h | ⟨j, hj, h⟩)
          · exact .inl h
          · exact .inr ⟨j, List.mem_cons_of_mem _ hj, h⟩
        · rintro (h | ⟨j, hj, h⟩)
          · exact .inl h
          · rcases List.mem_cons.1 hj with rfl | hj
            · exact absurd hq h.1
            · exact .inr ⟨j, hj, h⟩
      · rw [ih.bx q]
        constructor
        · rintro (h | ⟨j, hj, h⟩)
          · exact .inl h
          · exact .inr ⟨j, List.mem_cons_of_mem _ hj, h⟩
        · rintro (h | ⟨j, hj, h⟩)
          · exact .inl h
          · rcases List.mem_cons.1 hj with rfl | hj
            · exact absurd hq h.1
            · exact .inr ⟨j, hj, h⟩
    · have hev : ∀ j, (S.ev.set i (f i)).getD j 0 = if j = i then f i else S.ev.getD j 0 := fun j => set_getD _ _ _ _ hil.1
      have hJ : ∀ j ∈ J, j ≠ i := fun j hj e => hi (by rw [← e]; exact hj)
      by_cases hv : v < otherE (edgeAt G i) v
      · have e : estep (N : Int) G v f S i = ⟨S.vs, S.ev.set i (f i), S.nx, withX (N : Int) S.nw (otherE (edgeAt G i) v)⟩ := by unfold estep; rw [if_neg hq, if_pos hv]
        rw [e]
        have ih := fold_step (p := p) hG v f J ⟨S.vs, S.ev.set i (f i), S.nx, withX (N : Int) S.nw (otherE (edgeAt G i) v)⟩ hd' (fun j hj => by simp only [List.length_set]; exact hl j (List.mem_cons_of_mem _ hj)) h1 (with_ok h2 ho)
        refine ⟨ih.vs, by rw [ih.el]; simp, fun j => ?_, ih.nx, ih.nw, ih.nxs, fun h => ih.nws (withX_small h _), fun q => ?_, fun q => ?_⟩
        · rw [ih.ev j]
          by_cases hj : j = i
          · subst hj; rw [if_neg hi, if_pos List.mem_cons_self, hev, if_pos rfl]
          · by_cases hj2 : j ∈ J
            · rw [if_pos hj2, if_pos (List.mem_cons_of_mem _ hj2)]
            · rw [if_neg hj2, if_neg (by simp [hj, hj2]), hev, if_neg hj]
        · rw [ih.bw q, with_bit h2 ho]
          constructor
          · rintro ((h | h) | ⟨j, hj, h⟩)
            · exact .inr ⟨i, List.mem_cons_self, hq, h.symm, by omega⟩
            · exact .inl h
            · refine .inr ⟨j, List.mem_cons_of_mem _ hj, ?_⟩
              have h9 := hev j
              rw [if_neg (hJ j hj)] at h9
              simp only [h9] at h
              exact h
          · rintro (h | ⟨j, hj, h⟩)
            · exact .inl (.inr h)
            · rcases List.mem_cons.1 hj with rfl | hj
              · exact .inl (.inl h.2.1.symm)
              · refine .inr ⟨j, hj, ?_⟩
                have h9 := hev j
                rw [if_neg (hJ j hj)] at h9
                simp only [h9]
                exact h
        · rw [ih.bx q]
          constructor
          · rintro (h | ⟨j, hj, h⟩)
            · exact .inl h
            · refine .inr ⟨j, List.mem_cons_of_mem _ hj, ?_⟩
              have h9 := hev j
              rw [if_neg (hJ j hj)] at h9
              simp only [h9] at h
              exact h
          · rintro (h | ⟨j, hj, h⟩)
            · exact .inl h
            · rcases List.mem_cons.1 hj with rfl | hj
              · exact absurd (by rw [← h.2.1]; exact hv) h.2.2
              · refine .inr ⟨j, hj, ?_⟩
                have h9 := hev j
                rw [if_neg (hJ j hj)] at h9
                simp only [h9]
                exact h
      · have e : estep (N : Int) G v f S i = ⟨S.vs, S.ev.set i (f i), withX (N : Int) S.nx (otherE (edgeAt G i) v), S.nw⟩ := by unfold estep; rw [if_neg hq, if_neg hv]
        rw [e]
        have ih := fold_step (p := p) hG v f J ⟨S.vs, S.ev.set i (f i), withX (N : Int) S.nx (otherE (edgeAt G i) v), S.nw⟩ hd' (fun j hj => by simp only [List.length_set]; exact hl j (List.mem_cons_of_mem _ hj)) (with_ok h1 ho) h2
        refine ⟨ih.vs, by rw [ih.el]; simp, fun j => ?_, ih.nx, ih.nw, fun h => ih.nxs (withX_small h _), ih.nws, fun q => ?_, fun q => ?_⟩
        · rw [ih.ev j]
          by_cases hj : j = i
          · subst hj; rw [if_neg hi, if_pos List.mem_cons_self, hev, if_pos rfl]
          · by_cases hj2 : j ∈ J
            · rw [if_pos hj2, if_pos (List.mem_cons_of_mem _ hj2)]
            · rw [if_neg hj2, if_neg (by simp [hj, hj2]), hev, if_neg hj]
        · rw [ih.bw q]
          constructor
          · rintro (h | ⟨j, hj, h⟩)
            · exact .inl h
            · refine .inr ⟨j, List.mem_cons_of_mem _ hj, ?_⟩
              have h9 := hev j
              rw [if_neg (hJ j hj)] at h9
              simp only [h9] at h
              exact h
          · rintro (h | ⟨j, hj, h⟩)
            · exact .inl h
            · rcases List.mem_cons.1 hj with rfl | hj
              · exact absurd h.2.2 (by rw [← h.2.1]; exact hv)
              · refine .inr ⟨j, hj, ?_⟩
                have h9 := hev j
                rw [if_neg (hJ j hj)] at h9
                simp only [h9]
                exact h
        · rw [ih.bx q, with_bit h1 ho]
          constructor
          · rintro ((h | h) | ⟨j, hj, h⟩)
            · exact .inr ⟨i, List.mem_cons_self, hq, h.symm, by rw [h]; exact hv⟩
            · exact .inl h
            · refine .inr ⟨j, List.mem_cons_of_mem _ hj, ?_⟩
              have h9 := hev j
              rw [if_neg (hJ j hj)] at h9
              simp only [h9] at h
              exact h
          · rintro (h | ⟨j, hj, h⟩)
            · exact .inl (.inr h)
            · rcases List.mem_cons.1 hj with rfl | hj
              · exact .inl (.inl h.2.1.symm)
              · refine .inr ⟨j, hj, ?_⟩
                have h9 := hev j
                rw [if_neg (hJ j hj)] at h9
                simp only [h9]
                exact h
end Go.Proofs.YtpgnappddddlpaaGreatDoor
namespace Go.Proofs.YtpgnappddddlpaaGreatDoor
open Go.RowKit

def Blk (w : World) (b : Nat) (cs : Array Value) (t : TypeId) : Prop := w.heap[b]? = some (.cells cs t (0, 0))
section
variable {w w' : World} {b : Nat} {cs : Array Value} {t : TypeId}
theorem Blk.lt (h : Blk w b cs t) : b < w.heap.size := (Array.getElem?_eq_some_iff.1 h).1
theorem Blk.cell (h : Blk w b cs t) {i : Nat} {v : Value} (hv : cs[i]? = some v) : w.cell? ⟨b, i, none⟩ = some v := by simp [World.cell?, show w.heap[b]? = _ from h, hv]
theorem Blk.frozen (h : Blk w b cs t) (i : Nat) : w.frozen? ⟨b, i, none⟩ = false := by simp [World.frozen?, show w.heap[b]? = _ from h]
theorem Blk.new (w : World) (cs : Array Value) (t : TypeId) : Blk (w.alloc (.cells cs t)) w.heap.size cs t := World.alloc_heap_new w _
theorem Blk.keep (h : Blk w b cs t) (hk : w'.heap[b]? = w.heap[b]?) : Blk w' b cs t := hk.trans h
theorem Blk.below (h : Blk w b cs t) (hb : Below w.heap.size w w') : Blk w' b cs t := h.keep (hb.block b h.lt)
theorem Blk.alloc (h : Blk w b cs t) (o : Obj) : Blk (w.alloc o) b cs t := h.below (below_a1 w o)
theorem Blk.drew (h : Blk w b cs t) : Blk w.drew b cs t := h
theorem Blk.drewN (h : Blk w b cs t) (n : Nat) : Blk (w.drewN n) b cs t := h
theorem Blk.grown {row : Option Nat} (h : Blk w b cs t) (hg : w.grownBy w' row) (hr : row ≠ some b) : Blk w' b cs t := h.keep (hg.block b h.lt (fun e => hr e.symm))
theorem Blk.other (h : Blk w b cs t) {p : Addr} (hp : b ≠ p.block) (u : Value) : Blk (w.setCell p u) b cs t := h.keep (Below.heap_setCell w p u b hp)
theorem Blk.set (h : Blk w b cs t) (i : Nat) (u : Value) : Blk (w.setCell ⟨b, i, none⟩ u) b (cs.setIfInBounds i u) t := by
  have hlt := h.lt
  have h2 : w.heap[b]? = some (.cells cs t (0, 0)) := h
  unfold Blk World.setCell
  simp [Array.getElem?_modify, h2]
end
end Go.Proofs.YtpgnappddddlpaaGreatDoor
namespace Go.Proofs.YtpgnappddddlpaaGreatDoor
open Go.RowKit

/-- Nothing is written but in blocks of S, and new ones. -/
structure OnlyB (S : Nat → Prop) (w w' : World) : Prop where
  os : w'.os = w.os
  tape : w'.tape = w.tape
  output : w'.output = w.output
  size : w.heap.size ≤ w'.heap.size
  block : ∀ k, k < w.heap.size → ¬ S k → w'.heap[k]? = w.heap[k]?
theorem OnlyB.refl (S : Nat → Prop) (w : World) : OnlyB S w w := ⟨rfl, rfl, rfl, Nat.le_refl _, fun _ _ _ => rfl⟩
theorem OnlyB.trans {S : Nat → Prop} {a b c : World} (h : OnlyB S a b) (k : OnlyB S b c) : OnlyB S a c :=
  ⟨k.os.trans h.os, k.tape.trans h.tape, k.output.trans h.output, Nat.le_trans h.size k.size, fun i hi hn => (k.block i (Nat.lt_of_lt_of_le hi h.size) hn).trans (h.block i hi hn)⟩
theorem OnlyB.grown {S : Nat → Prop} {a b c : World} {row : Option Nat} (h : OnlyB S a b) (k : b.grownBy c row) (hr : ∀ i, row = some i → S i) : OnlyB S a c :=
  h.trans ⟨k.os, k.tape, k.output, k.size, fun i hi hn => k.block i hi (fun e => hn (hr i e.symm))⟩
theorem OnlyB.below {S : Nat → Prop} {a b c : World} (h : OnlyB S a b) (k : Below b.heap.size b c) : OnlyB S a c :=
  h.trans ⟨k.os, k.tape, k.output, k.size, fun i hi _ => k.block i hi⟩
theorem OnlyB.mono {S T : Nat → Prop} {a b : World} (h : OnlyB S a b) (hs : ∀ i, S i → T i) : OnlyB T a b :=
  ⟨h.os, h.tape, h.output, h.size, fun i hi hn => h.block i hi (fun e => hn (hs i e))⟩
theorem OnlyB.toBelow {S : Nat → Prop} {B : Nat} {w w' : World} (h : OnlyB S w w') (hB : B ≤ w.heap.size) (hs : ∀ k, S k → B ≤ k) : Below B w w' :=
  ⟨h.os, h.tape, h.output, h.size, fun k hk => h.block k (by omega) (fun e => by have := hs k e; omega)⟩
theorem OnlyB.own {S : Nat → Prop} {w w' : World} {lo e size n : Nat} {v : Value} {xs : List Value} (h : w.ownsRow lo e size v n xs) (k : OnlyB S w w') (hs : ∀ g, v.ownBlock = some g → ¬ S g) : w'.ownsRow lo e size v n xs := by
  refine ⟨h.1, ?_⟩
  rcases h.2 with hn | ⟨g, cap, cur, rfl, hb, hgg, rest⟩
  · exact .inl hn
  · refine .inr ⟨g, cap, cur, rfl, hb, ?_, rest⟩
    rw [k.block g (Array.getElem?_eq_some_iff.1 hgg).1 (hs g rfl)]
    exact hgg
theorem OnlyB.grown2 {S : Nat → Prop} {a b c : World} {row : Option Nat} (h : OnlyB S a b) (k : b.grownBy c row) (hr : ∀ i, row = some i → S i ∨ a.heap.size ≤ i) : OnlyB S a c :=
  ⟨k.os.trans h.os, k.tape.trans h.tape, k.output.trans h.output, Nat.le_trans h.size k.size, fun i hi hn => (k.block i (Nat.lt_of_lt_of_le hi h.size) (fun e => by
    rcases hr i e.symm with h1 | h1
    · exact hn h1
    · omega)).trans (h.block i hi hn)⟩
end Go.Proofs.YtpgnappddddlpaaGreatDoor
namespace Go.Proofs.YtpgnappddddlpaaGreatDoor
open Go.RowKit
set_option linter.unusedVariables false

/-- Rows of two kinds of element lie in two blocks. -/
theorem own_types {w : World} {lo1 lo2 e1 e2 s1 s2 n1 n2 : Nat} {v1 v2 : Value} {xs1 xs2 : List Value} (h1 : w.ownsRow lo1 e1 s1 v1 n1 xs1) (h2 : w.ownsRow lo2 e2 s2 v2 n2 xs2) (hne : e1 ≠ e2) : v1.ownBlock = none ∨ v2.ownBlock ≠ v1.ownBlock := by
  rcases h1.2 with ⟨rfl, _⟩ | ⟨g, cap, cur, rfl, _, hb, _⟩
  · exact .inl rfl
  · rcases h2.2 with ⟨rfl, _⟩ | ⟨g2, cap2, cur2, rfl, _, hb2, _⟩
    · exact .inr (by simp [Value.ownBlock])
    · refine .inr (fun e => ?_)
      simp [Value.ownBlock] at e
      subst e
      rw [hb] at hb2
      injection hb2 with h
      injection h with _ h _
      exact hne h
theorem grown_cell (w : World) (b i : Nat) (u : Value) : w.grownBy (w.setCell ⟨b, i, none⟩ u) (some b) :=
  ⟨rfl, rfl, rfl, by simp, fun k _ hk => Below.heap_setCell w ⟨b, i, none⟩ u k (fun e => hk (by rw [show k = b from e]))⟩
/-- A row of one type does not lie in a block of another. -/
theorem own_kind {w : World} {lo e size n b : Nat} {v : Value} {xs : List Value} {cs : Array Value} {t : TypeId} (h : w.ownsRow lo e size v n xs) (hb : Blk w b cs t) (hne : e ≠ t) : v.ownBlock ≠ some b := by
  rcases h.2 with ⟨rfl, _⟩ | ⟨g, cap, cur, rfl, _, hg, _⟩
  · simp [Value.ownBlock]
  · intro e3
    have e3 : g = b := by simpa [Value.ownBlock] using e3
    subst e3
    have h9 : w.heap[g]? = some (.cells cs t (0, 0)) := hb
    rw [hg] at h9
    injection h9 with h9
    injection h9 with _ h2
    exact absurd h2 hne
theorem own_kept {w w' : World} {lo e size n g : Nat} {v : Value} {xs : List Value} (h : w.ownsRow lo e size v n xs) (hg : w.grownBy w' (some g)) (hne : v.ownBlock ≠ some g) : w'.ownsRow lo e size v n xs :=
  h.kept hg (.inr hne)
/-- A row of later days lies elsewhere. -/
theorem own_time {w2 : World} {v1 v2 : Value} {l1 sz lo2 e s n : Nat} {xs : List Value} (hlt : ∀ b, v1.ownBlock = some b → l1 ≤ b ∧ b < sz) (h2 : w2.ownsRow lo2 e s v2 n xs) (hle : sz ≤ lo2) : v1.ownBlock = none ∨ v2.ownBlock ≠ v1.ownBlock := by
  cases hv : v1.ownBlock with
  | none => exact .inl rfl
  | some b =>
    right
    intro e
    have a := (hlt b hv).2
    have c := (h2.lt b e).1
    omega
theorem own_old {v : Value} {l sz g : Nat} (hlt : ∀ b, v.ownBlock = some b → l ≤ b ∧ b < sz) (hle : sz ≤ g) : v.ownBlock = none ∨ v.ownBlock ≠ some g := by
  cases hv : v.ownBlock with
  | none => exact .inl rfl
  | some b =>
    right
    intro e
    injection e with e
    have a := (hlt b hv).2
    omega
theorem ap_symm {a b : Option Nat} (h : a = none ∨ b ≠ a) : b = none ∨ a ≠ b := by
  rcases h with h | h
  · cases b with
    | none => exact .inl rfl
    | some x => exact .inr (by rw [h]; simp)
  · exact .inr (fun e => h e.symm)
theorem OnlyB.blk {S : Nat → Prop} {w w' : World} {b : Nat} {cs : Array Value} {t : TypeId} (h : OnlyB S w w') (hb : Blk w b cs t) (hn : ¬ S b) : Blk w' b cs t := hb.keep (h.block b hb.lt hn)
/-- Nothing is written but in blocks from l to h, and new ones. -/
def Wr (l h : Nat) (w w' : World) : Prop := OnlyB (fun g => l ≤ g ∧ g < h) w w'
section
variable {w w' w0 : World} {l h l1 h1 lo e sz n c b : Nat} {A : Option Addr} {xs : List Value} {v : Value}
theorem Wr.of_grown {row : Option Nat} (hg : w.grownBy w' row) (hr : ∀ g, row = some g → l ≤ g ∧ g < h) : Wr l h w w' := (OnlyB.refl _ w).grown hg hr
theorem Wr.of_only {S : Nat → Prop} (ho : OnlyB S w w') (hr : ∀ g, S g → l ≤ g ∧ g < h) : Wr l h w w' := ho.mono hr
theorem Wr.size (hw : Wr l h w w') : w.heap.size ≤ w'.heap.size := OnlyB.size hw
theorem Wr.blk {cs : Array Value} {t : TypeId} (hw : Wr l h w w') (hb : Blk w b cs t) (hd : b < l ∨ h ≤ b) : Blk w' b cs t := hb.keep (OnlyB.block hw b hb.lt (fun hh => by have h1 := hh.1; have h2 := hh.2; omega))
theorem Wr.own (hw : Wr l h w w') (ho : w.ownsRow lo e sz v n xs) (ha : ∀ g, v.ownBlock = some g → l1 ≤ g ∧ g < h1) (hd : h1 ≤ l ∨ h ≤ l1) : w'.ownsRow lo e sz v n xs :=
  OnlyB.own ho hw (fun g hg hh => by have h2 := ha g hg; have h3 := hh.1; have h4 := hh.2; omega)
theorem Wr.orig {base : Nat} (hw : Wr l h w w') (hb : Below base w0 w) (hs : base ≤ w.heap.size) (hl : base ≤ l) : Below base w0 w' := hb.trans (OnlyB.toBelow hw hs (fun k hk => by have h1 := hk.1; omega))
end
end Go.Proofs.YtpgnappddddlpaaGreatDoor
namespace Go.Proofs.YtpgnappddddlpaaGreatDoor
open Go.RowKit

def runCells (r : RD) (A : Option Addr) (c : Nat) (B : Option Addr) (d : Nat) (C : Option Addr) (k : Nat) : Array Value :=
  #[.int .i64 r.p, .int .i64 r.s, .int .i64 r.it, .bool r.dn, .slice A r.vs.length c, .slice B r.ev.length d, .int .i64 r.nn, .slice C r.nx.length k]
/-- A run that reads. -/
structure RunR (w : World) (r : RD) (A B C : Option Addr) : Prop where
  v : SlI w A r.vs.length r.vs
  e : SlI w B r.ev.length r.ev
  x : Rd w C r.nx.length r.nx
theorem RunR.below {w w' : World} {r : RD} {A B C : Option Addr} (h : RunR w r A B C) (hb : Below w.heap.size w w') : RunR w' r A B C := ⟨h.v.below hb, h.e.below hb, h.x.below hb⟩
/-- A run of the call's own. -/
structure RunO (w : World) (lo : Nat) (r : RD) (A : Option Addr) (c : Nat) (B : Option Addr) (d : Nat) (C : Option Addr) (k : Nat) : Prop where
  v : w.ownsRow lo 3 1 (.slice A r.vs.length c) r.vs.length (vi r.vs)
  e : w.ownsRow lo 3 1 (.slice B r.ev.length d) r.ev.length (vi r.ev)
  x : w.ownsRow lo 5 1 (.slice C r.nx.length k) r.nx.length (vb r.nx)
  ap : (Value.slice A r.vs.length c).ownBlock = none ∨ (Value.slice B r.ev.length d).ownBlock ≠ (Value.slice A r.vs.length c).ownBlock
section
variable {w w' : World} {lo lo' : Nat} {r : RD} {A B C : Option Addr} {c d k : Nat}
theorem RunO.below (h : RunO w lo r A c B d C k) (hb : Below w.heap.size w w') : RunO w' lo r A c B d C k := ⟨own_below h.v hb, own_below h.e hb, own_below h.x hb, h.ap⟩
theorem RunO.mono (h : RunO w lo r A c B d C k) (hl : lo' ≤ lo) : RunO w lo' r A c B d C k := ⟨own_monoG h.v hl, own_monoG h.e hl, own_monoG h.x hl, h.ap⟩
theorem RunO.reads (h : RunO w lo r A c B d C k) (hs : ∀ x ∈ r.nx, x < 256) : RunR w r A B C := ⟨SlI.of_own h.v, SlI.of_own h.e, Rd.of_own h.x hs⟩
end
/-- A new run. -/
def MadeRun (w : World) (r : RD) (e : Ending) (w' : World) : Prop :=
  ∃ A c B d C k, e = .returned (.agg (runCells r A c B d C k)) ∧ RunO w' w.heap.size r A c B d C k ∧ Below w.heap.size w w'
end Go.Proofs.YtpgnappddddlpaaGreatDoor
namespace Go.Proofs.YtpgnappddddlpaaGreatDoor
open Go.RowKit

/-- The first k cells are those of xs, the rest nought. -/
def half (xs : List Nat) (k : Nat) : List Nat := xs.take k ++ List.replicate (xs.length - k) 0

theorem half_zero (xs : List Nat) : half xs 0 = List.replicate xs.length 0 := by simp [half]

theorem half_full (xs : List Nat) : half xs xs.length = xs := by simp [half]

theorem half_step (xs : List Nat) (k x : Nat) (h : xs[k]? = some x) : (vb (half xs k)).set k (.int .u8 (x : Int)) = vb (half xs (k + 1)) := by
  have hk : k < xs.length := (List.getElem?_eq_some_iff.1 h).1
  have hx : xs[k] = x := (List.getElem?_eq_some_iff.1 h).2
  have : (half xs k).set k x = half xs (k + 1) := by
    unfold half
    rw [List.set_append_right _ _ (by simp; omega), List.take_succ_eq_append_getElem hk, List.append_assoc]
    congr 1
    rw [List.length_take, Nat.min_eq_left (by omega), Nat.sub_self, show xs.length - k = (xs.length - (k + 1)) + 1 by omega, List.replicate_succ]
    simp [hx]
  rw [← this]
  simp [vb, List.map_set]

set_option maxHeartbeats 400000 in
theorem copy_any (A : Option Addr) (n c : Nat) (xs : List Nat) (w : World) (hr : Rd w A n xs) (hn : n ≤ 2097152) :
    Calls Tryz.prog 31 #[.slice A n c] w (Made w n xs) := by
  obtain ⟨i0, hi, hz0, hz1, hz2⟩ := info_parts Tryz.infoByte
  have hl := Lib.hid hr.len
  go_enter Tryz.func31, Tryz.ntmps31
  go_wp2_with (refine wpList_make_full _ rfl (.tmp 6) (.tmp 6) 28 rfl w.heap.size 5 i0 (.int .u8 0) 1 Tryz.underlying28 hi hz0 hz1 .i64 .i64 _ _ n rfl rfl rfl rfl (by rw [hz2]; omega) (by unfold maxLen; omega) (Nat.le_refl _) ?_; intro w1 hown hg)
  have hb1 : Below w.heap.size w w1 := (Below.refl _ _).grown hg (Nat.le_refl _) (by simp)
  have hown1 : w1.ownsRow w.heap.size 5 1 (.slice (some ⟨w.heap.size, 0, none⟩) n n) n (vb (half xs 0)) := by
    have h := hown
    rw [half_zero, hl.out, show (Value.int IntKind.u8 0).cells = #[.int .u8 0] from rfl, toList_madeCells_one, Nat.mul_one] at *
    simpa [vb] using h
  clear hown hg
  go_loopw [4] (fun i wr => ∃ k : Nat, k ≤ n ∧ i = .int .i64 k ∧ wr.ownsRow w.heap.size 5 1 (.slice (some ⟨w.heap.size, 0, none⟩) n n) n (vb (half xs k)) ∧ Below w.heap.size w wr) (fun i _ => n - (intOf i).toNat)
  case atStart => exact ⟨0, Nat.zero_le _, rfl, hown1, hb1⟩
  case round =>
    obtain ⟨k, hk, rfl, hown, hbel⟩ := hrel
    by_cases hlt : k < n
    · obtain ⟨b, off, x, rfl, hbw, hx, hxs, hc⟩ := hr.at_ hlt
      have hcell : wr.cell? ⟨b, off + k, none⟩ = some (.int .u8 (x : Int)) := (hbel.cell (by exact hbw)).trans hc
      have hl2 : k < (vb (half xs k)).length := by rw [hown.1]; omega
      have hcell2 : wr.cell? ⟨w.heap.size, k, none⟩ = some (vb (half xs k))[k] := by rw [hown.cellAt k (by omega), List.getElem?_eq_getElem hl2]
      have hfr := hown.frozenAt k
      have hst := hown.stored k (.int .u8 (x : Int))
      rw [half_step xs k x hxs.out] at hst
      have hb2 := hbel.setCell (p := ⟨w.heap.size, k, none⟩) (Nat.le_refl _) (.int .u8 (x : Int))
      have hst1 := Lib.hid hst.1
      generalize (vb (half xs k))[k] = old at hcell2
      clear hst hown hl2 hc
      go_wp2
      go_roundw
      case rel => exact ⟨k + 1, by omega, by go_num, hst1.out, hb2⟩
      case measure => simp [intOf]; omega
    · have : k = n := by omega
      subst this
      go_wp2
      go_ret
      have e := hl.out
      subst e
      rw [half_full] at hown
      exact ⟨_, _, rfl, hown, hbel⟩

set_option maxHeartbeats 400000 in
theorem same_any (A B : Option Addr) (n c d : Nat) (xs : List Nat) (w : World) (ha : Rd w A n xs) (hb : Rd w B n xs) (hn : n ≤ 2097152) :
    Calls Tryz.prog 40 #[.slice A n c, .slice B n d] w fun e w' => e = .returned (.bool true) ∧ ∃ m, w' = w.drewN m := by
  go_enter Tryz.func40, Tryz.ntmps40
  go_wp2
  go_loopw [5] (fun i wr => ∃ k : Nat, k ≤ n ∧ i = .int .i64 k ∧ ∃ m, wr = w.drewN m) (fun i _ => n - (intOf i).toNat)
  case atStart => exact ⟨0, Nat.zero_le _, rfl, 0, rfl⟩
  case round =>
    obtain ⟨k, hk, rfl, m, rfl⟩ := hrel
    by_cases hlt : k < n
    · obtain ⟨b, off, x, rfl, hbw, hx, hxs, hc⟩ := ha.at_ hlt
      obtain ⟨b', off', x', rfl, hbw', hx', hxs', hc'⟩ := hb.at_ hlt
      obtain rfl : x = x' := by have := hxs.out.symm.trans hxs'.out; injection this
      go_wp2
      go_quiet (fail)
      go_wp2
      go_roundw
      case rel => exact ⟨k + 1, by omega, by go_num, _, rfl⟩
      case measure => simp [intOf]; omega
    · go_wp2
      go_ret
      exact ⟨rfl, m, rfl⟩
end Go.Proofs.YtpgnappddddlpaaGreatDoor
namespace Go.Proofs.YtpgnappddddlpaaGreatDoor
open Go.RowKit

/-- Shapes of plain data; a struct is a chain of pairs. -/
inductive Sh where
  | int (k : IntKind)
  | bool
  | str
  | sl (e : Sh)
  | pair (a b : Sh)

def Sh.size : Sh → Nat
  | .int _ => 1
  | .bool => 1
  | .str => 1
  | .sl _ => 1
  | .pair a b => a.size + b.size
def Sh.D : Sh → Type
  | .int _ => Int
  | .bool => Bool
  | .str => ByteArray
  | .sl e => List e.D
  | .pair a b => a.D × b.D

/-- The cells from an address on. -/
def CellsAt (w : World) (b off : Nat) (cs : List Value) : Prop := ∀ (i : Nat) (v : Value), cs[i]? = some v → w.cell? ⟨b, off + i, none⟩ = some v
theorem CellsAt.same {w w' : World} {b off : Nat} {cs : List Value} (h : CellsAt w b off cs) (hb : w'.heap[b]? = w.heap[b]?) : CellsAt w' b off cs :=
  fun i v hv => (World.cell?_of_block (a := ⟨b, off + i, none⟩) hb).trans (h i v hv)

def RdR (lo hi : Nat) (w : World) : (s : Sh) → List Value → s.D → Prop
  | .int k, cs, n => cs = [.int k n] ∧ (Lit.int k n).wf = true
  | .bool, cs, b => cs = [.bool b]
  | .str, cs, x => cs = [.string x] ∧ ByteArray.size x ≤ maxLen
  | .sl e, cs, ds => ∃ A n c, cs = [.slice A n c] ∧ List.length ds = n ∧ n ≤ c ∧ c ≤ maxLen ∧ (0 < n → ∃ b off, A = some ⟨b, off, none⟩ ∧ lo ≤ b ∧ b < hi ∧
      ∀ (j : Nat) (d : e.D), (show List e.D from ds)[j]? = some d → ∃ es, es.length = e.size ∧ CellsAt w b (off + j * e.size) es ∧ RdR lo hi w e es d)
  | .pair a b, cs, d => ∃ c1 c2, cs = c1 ++ c2 ∧ c1.length = a.size ∧ RdR lo hi w a c1 d.1 ∧ RdR lo hi w b c2 d.2

theorem RdR.len {lo hi : Nat} {w : World} : ∀ {s : Sh} {cs : List Value} {d : s.D}, RdR lo hi w s cs d → cs.length = s.size
  | .int _, _, _, h => by rw [h.1]; rfl
  | .bool, _, _, h => by rw [show _ = _ from h]; rfl
  | .str, _, _, h => by rw [h.1]; rfl
  | .sl _, _, _, h => by obtain ⟨_, _, _, e, _⟩ := h; rw [e]; rfl
  | .pair _ _, _, _, h => by
    obtain ⟨c1, c2, e, h1, _, h2⟩ := h
    rw [e, List.length_append, h1, RdR.len h2]
    rfl

/-- Where the blocks from lo on and below hi are as they were, the reading is too; and the bounds may be widened. -/
theorem RdR.keep {lo hi lo' hi' : Nat} {w w' : World} (hl : lo' ≤ lo) (hh : hi ≤ hi') (hs : ∀ k, lo ≤ k → k < hi → w'.heap[k]? = w.heap[k]?) :
    ∀ {s : Sh} {cs : List Value} {d : s.D}, RdR lo hi w s cs d → RdR lo' hi' w' s cs d
  | .int _, _, _, h => h
  | .bool, _, _, h => h
  | .str, _, _, h => h
  | .sl e, _, _, h => by
    obtain ⟨A, n, c, e1, e2, e3, e4, h⟩ := h
    refine ⟨A, n, c, e1, e2, e3, e4, fun hn => ?_⟩
    obtain ⟨b, off, eA, hb1, hb2, h⟩ := h hn
    refine ⟨b, off, eA, by omega, by omega, fun j d hd => ?_⟩
    obtain ⟨es, hl2, hc, hr⟩ := h j d hd
    exact ⟨es, hl2, hc.same (hs b hb1 hb2), RdR.keep hl hh hs hr⟩
  | .pair _ _, _, _, h => by
    obtain ⟨c1, c2, e, h1, ha, hb⟩ := h
    exact ⟨c1, c2, e, h1, RdR.keep hl hh hs ha, RdR.keep hl hh hs hb⟩

theorem RdR.below {lo hi B : Nat} {w w' : World} {s : Sh} {cs : List Value} {d : s.D} (h : RdR lo hi w s cs d) (hb : Below B w w') (hB : hi ≤ B) : RdR lo hi w' s cs d :=
  h.keep (Nat.le_refl _) (Nat.le_refl _) (fun k _ hk => hb.block k (by omega))
theorem RdR.drewN {lo hi : Nat} {w : World} {s : Sh} {cs : List Value} {d : s.D} (h : RdR lo hi w s cs d) (k : Nat) : RdR lo hi (w.drewN k) s cs d :=
  RdR.keep (w := w) (w' := w.drewN k) (Nat.le_refl _) (Nat.le_refl _) (fun _ _ _ => rfl) h
/-- The element at place j of a slice that reads so. -/
theorem RdR.at_ {lo hi : Nat} {w : World} {e : Sh} {A : Option Addr} {n c j : Nat} {ds : List e.D} (h : RdR lo hi w (.sl e) [.slice A n c] ds) (hj : j < n) :
    ∃ (b off : Nat) (es : List Value) (d : e.D), A = some ⟨b, off, none⟩ ∧ lo ≤ b ∧ b < hi ∧ Hid (ds[j]? = some d) ∧ es.length = e.size ∧ CellsAt w b (off + j * e.size) es ∧ RdR lo hi w e es d := by
  obtain ⟨A', n', c', e1, e2, _, _, h⟩ := h
  simp only [List.cons.injEq, Value.slice.injEq, and_true] at e1
  obtain ⟨rfl, rfl, rfl⟩ := e1
  obtain ⟨b, off, eA, hb1, hb2, h⟩ := h (by omega)
  have hl : j < List.length ds := by omega
  obtain ⟨es, h1, h2, h3⟩ := h j ds[j] (List.getElem?_eq_getElem hl)
  exact ⟨b, off, es, ds[j], eA, hb1, hb2, List.getElem?_eq_getElem hl, h1, h2, h3⟩
theorem add_plain (b off j : Nat) : ((⟨b, off, none⟩ : Addr).add j) = ⟨b, off + j, none⟩ := by unfold Addr.add; split <;> simp_all
theorem add_spot {w : World} {a : Addr} {v : Value} (h : w.cell? (a.add 0) = some v) : a.spot = none := by
  have h1 := World.cell?_spot h
  simpa [Addr.add] using h1

section
variable {H : Type} {enc : TypeId × Value → H} {P : Program} {w : World} {base : Nat} {spare : Nat → Bool} {held : Bool}

/-- Whatever reads at the type t (as the form reads arguments) reads as a datum of the shape s. -/
def Opens (enc : TypeId × Value → H) (P : Program) (w : World) (base : Nat) (spare : Nat → Bool) (held : Bool) (t : TypeId) (s : Sh) : Prop :=
  ∀ (fuel : Nat) (cs : List Value) (x : DataW H × List MemPlace), DataW.trod enc P w base spare held fuel t cs = some x → ∃ d : s.D, RdR 0 w.heap.size w s cs d
theorem opens_int {t : TypeId} {k : IntKind} (ht : P.underlying t = some (.int k)) : Opens enc P w base spare held t (.int k) := fun _ _ _ h => by
  obtain ⟨n, e, _, hw⟩ := DataW.trod_int ht h
  exact ⟨n, e, hw⟩
theorem opens_bool {t : TypeId} (ht : P.underlying t = some .bool) : Opens enc P w base spare held t .bool := fun _ _ _ h => by
  obtain ⟨b, e, _⟩ := DataW.trod_bool ht h
  exact ⟨b, e⟩
theorem opens_sl {t e : TypeId} {s : Sh} (ht : P.underlying t = some (.slice e)) (hc : P.cellsOf e = s.size) (hs : 0 < s.size) (ho : Opens enc P w base spare held e s) : Opens enc P w base spare held t (.sl s) := fun _ _ _ h => by
  rcases DataW.trod_slice ht h with ⟨rfl, _⟩ | ⟨a, len, cap, elems, rest, n, _, rfl, _, _, hl, hmx, hlen, hel, hsp1, hsp2⟩
  · exact ⟨([] : List s.D), none, 0, 0, rfl, rfl, Nat.le_refl _, Nat.zero_le _, fun h0 => absurd h0 (by omega)⟩
  · have each : ∀ i, i < len → ∃ (es : List Value) (d : s.D), es.length = s.size ∧ (∀ j, j < s.size → w.cell? (a.add (i * s.size + j)) = es[j]?) ∧ RdR 0 w.heap.size w s es d := by
      intro i hi
      have h1 := hel i hi
      rw [List.getElem?_eq_getElem (by omega), Option.bind_eq_some_iff] at h1
      obtain ⟨es, hes, htr⟩ := h1
      obtain ⟨_, h2, h3⟩ := World.cells?_some hes
      obtain ⟨d, hd⟩ := ho _ _ _ htr
      refine ⟨es, d, by rw [h2, hc], fun j hj => ?_, hd⟩
      have := h3 j (by rw [hc]; exact hj)
      rw [hc] at this
      rw [← this]
      congr 1
      unfold Addr.add
      by_cases h01 : i * s.size = 0 <;> by_cases h02 : j = 0 <;> simp [h01, h02, Nat.add_assoc]
    have hall : ∃ ds : List s.D, ds.length = len ∧ ∀ (i : Nat) (d : s.D), ds[i]? = some d → ∃ es : List Value, es.length = s.size ∧ (∀ j, j < s.size → w.cell? (a.add (i * s.size + j)) = es[j]?) ∧ RdR 0 w.heap.size w s es d := by
      clear hel h hl hlen hsp1 hsp2
      induction len with
      | zero => exact ⟨[], rfl, fun i d h => by simp at h⟩
      | succ m ih =>
        obtain ⟨ds, hd1, hd2⟩ := ih (fun i hi => each i (by omega))
        obtain ⟨es, d, h1, h2, h3⟩ := each m (by omega)
        refine ⟨ds ++ [d], by simp [hd1], fun i d' hi => ?_⟩
        rcases Nat.lt_trichotomy i m with hlt | heq | hgt
        · rw [List.getElem?_append_left (by omega)] at hi
          exact hd2 i d' hi
        · subst heq
          rw [List.getElem?_append_right (by omega), hd1, Nat.sub_self] at hi
          simp at hi
          subst hi
          exact ⟨es, h1, h2, h3⟩
        · rw [List.getElem?_eq_none (by simp; omega)] at hi
          cases hi
    obtain ⟨ds, hd1, hd2⟩ := hall
    refine ⟨ds, some a, len, cap, rfl, hd1, hl, hmx, fun h0 => ?_⟩
    obtain ⟨es0, d0, h1, h2, _⟩ := each 0 h0
    have hc0 : w.cell? (a.add 0) = some es0[0] := by
      have := h2 0 hs
      rw [Nat.zero_mul, Nat.add_zero] at this
      rw [this, List.getElem?_eq_getElem (by omega)]
    have hsp := add_spot hc0
    obtain ⟨b, off, sp⟩ := a
    simp only at hsp
    subst hsp
    have hlt : b < w.heap.size := by
      rw [add_plain] at hc0
      exact World.block_lt_of_cell? w _ hc0
    refine ⟨b, off, rfl, Nat.zero_le _, hlt, fun j d hj => ?_⟩
    obtain ⟨es, h3, h4, h5⟩ := hd2 j d hj
    refine ⟨es, h3, fun i v hv => ?_, h5⟩
    have hi : i < s.size := by have := (List.getElem?_eq_some_iff.1 hv).1; omega
    have := h4 i hi
    rw [add_plain, ← Nat.add_assoc] at this
    rw [this, hv]

/-- The fields of a struct from one on. -/
def OpensF (enc : TypeId × Value → H) (P : Program) (w : World) (base : Nat) (spare : Nat → Bool) (held : Bool) (fs : List Field) (off : Nat) (s : Sh) : Prop :=
  ∀ cs : List Value, (∀ f ∈ fs, ∃ (n : Nat) (y : DataW H × List MemPlace), DataW.trod enc P w base spare held n f.type ((cs.drop f.offset).take (P.cellsOf f.type)) = some y) → cs.length = off + s.size → ∃ d : s.D, RdR 0 w.heap.size w s (cs.drop off) d
theorem opensF_last {f : Field} {off : Nat} {s : Sh} (h1 : f.offset = off) (hc : P.cellsOf f.type = s.size) (ho : Opens enc P w base spare held f.type s) : OpensF enc P w base spare held [f] off s := fun cs hf hl => by
  obtain ⟨n, y, h⟩ := hf f (by simp)
  obtain ⟨d, hd⟩ := ho _ _ _ h
  rw [h1, hc, List.take_of_length_le (by rw [List.length_drop]; omega)] at hd
  exact ⟨d, hd⟩
theorem opensF_cons {f : Field} {fs : List Field} {off : Nat} {a b : Sh} (h1 : f.offset = off) (hc : P.cellsOf f.type = a.size) (ho : Opens enc P w base spare held f.type a) (hr : OpensF enc P w base spare held fs (off + a.size) b) :
    OpensF enc P w base spare held (f :: fs) off (.pair a b) := fun cs hf hl => by
  obtain ⟨n, y, h⟩ := hf f (by simp)
  obtain ⟨d, hd⟩ := ho _ _ _ h
  rw [h1, hc] at hd
  have hsz : (Sh.pair a b).size = a.size + b.size := rfl
  obtain ⟨d2, hd2⟩ := hr cs (fun g hg => hf g (by simp [hg])) (by rw [hl, hsz]; omega)
  refine ⟨(d, d2), _, _, ?_, hd.len, hd, hd2⟩
  rw [← List.drop_drop]
  exact (List.take_append_drop _ _).symm
theorem opens_struct {t : TypeId} {fs : Array Field} {s : Sh} (ht : P.underlying t = some (.struct fs)) (hc : P.cellsOf t = s.size) (hf : OpensF enc P w base spare held fs.toList 0 s) : Opens enc P w base spare held t s := fun _ cs _ h => by
  obtain ⟨xs, n, _, _, hl, hlen, hall⟩ := DataW.trod_struct ht h
  obtain ⟨d, hd⟩ := hf cs (fun f hfm => by
    obtain ⟨i, hi, he⟩ := List.getElem_of_mem hfm
    have hi2 : i < fs.size := by simpa using hi
    have h1 := hall i f (by rw [← he]; simp [hi2])
    rw [List.getElem?_eq_getElem (by omega)] at h1
    exact ⟨n, _, h1⟩) (by rw [hl, hc]; omega)
  exact ⟨d, by simpa using hd⟩
end
end Go.Proofs.YtpgnappddddlpaaGreatDoor
