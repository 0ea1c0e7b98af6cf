/- Graphs: valid ones as data, and the contracts of the model's and the program's functions that ask it. Condition: at most 2^20 edges. // Runs in memory as data: a run, its views, one vertex, one iteration (no program; no condition). // A block of cells that is known whole (plain lemmas over the model; no condition). // A run in memory: eight cells, two lists of numbers and a list of bytes, read or owned (plain lemmas over the model; no condition). // The contracts of the two helpers of the laws: 'toByteS' makes a copy of a slice of bytes in new memory; 'eqByteS' of two slices that read as the same bytes returns true and writes nothing. Condition: at most 2^21 bytes. // Words for data with depth (plain lemmas over the model; no condition): 'RdR lo hi w s cs d': the cells cs read in w as the datum d of the shape s, and every row that is looked into lies in a block from lo on and below hi; such a reading is kept where these blocks are. // Frames: the contracts of the laws' helpers on them (measures, copies, comparisons), of the functions that ask whether a frame is valid, the opening of an argument that is a frame. // A block that holds a frame. // Sets in memory: a block that holds one, what a call that makes one leaves (plain lemmas over the model; no condition). // Blocks that hold a run in memory, and may be written; rows of the call's own beside them (plain lemmas over the model; no condition). // Slices of bytes, of files and of operations of the call's own: no two slices of bytes lie in one block; what is owned is kept where its blocks are, and reads. // The contracts of the laws' helpers that write marks into bytes of the call's own and look for them; words for what is written only in some blocks. Condition: at most 2^21 bytes. // Words for slices of shard edges in memory (plain lemmas over the model; no condition): 'SlK': a slice that reads as a list of records of five numbers; such a list laid record by record; marks in it. // Shard edges and shards: what new ones are (no condition). // Shard edges: the contracts of the laws' helpers that leave marks and that look for them. Condition: at most 2^21 edges. // The contracts of the law's two helpers that write marks into a slice of bytes and look for them: 'markByteS' writes 1, 2, 3 .. (modulo 256) into a row of the call's own, and nothing else; 'heldByteS' finds them. Condition: at most 2^21 bytes. -/
import Derived.Test.YtlhcobkncceodaaDoorCGA
import Derived.RangeFuncBox
import Derived.WalkKit
import Derived.Below
import Derived.Laws.Rows
import Derived.Laws.OwnMore
import Derived.Deep.Draws
import Derived.Lib.Hide
import Derived.ChangeArms
import Derived.DataReads
import Derived.Deep.QuietTactic
import Derived.BigQuiet
namespace Go.Proofs.YtlhcobkncceodaaDoor
open Go.RowKit

def edgeB (n : Int) (e : GE) : Bool := decide (0 ≤ e.f ∧ e.f < n ∧ 0 ≤ e.t ∧ e.t < n ∧ 0 ≤ e.w ∧ e.w ≤ 1000)
def graphB (n : Int) (es : List GE) : Bool := decide (0 ≤ n ∧ n ≤ 150 ∧ es.length ≤ 400) && es.all (edgeB n)
theorem edgeB_iff {n : Int} {e : GE} (h : edgeB n e = true) : 0 ≤ e.f ∧ e.f < n ∧ 0 ≤ e.t ∧ e.t < n ∧ 0 ≤ e.w ∧ e.w ≤ 1000 := of_decide_eq_true h
theorem graphB_iff {n : Int} {es : List GE} (h : graphB n es = true) : 0 ≤ n ∧ n ≤ 150 ∧ es.length ≤ 400 ∧ ∀ e ∈ es, edgeB n e = true := by
  unfold graphB at h
  rw [Bool.and_eq_true, decide_eq_true_iff, List.all_eq_true] at h
  exact ⟨h.1.1, h.1.2.1, h.1.2.2, h.2⟩
theorem graphB_no {n : Int} {es : List GE} {k : Nat} {e : GE} (h : es[k]? = some e) (he : edgeB n e = false) : graphB n es = false := by
  cases hh : graphB n es with
  | false => rfl
  | true =>
    have := (graphB_iff hh).2.2.2 e (List.mem_of_getElem? h)
    rw [he] at this
    cases this
theorem all_step {n : Int} {es : List GE} {k : Nat} {e : GE} (h : es[k]? = some e) (ha : ∀ x ∈ es.take k, edgeB n x = true) (he : edgeB n e = true) : ∀ x ∈ es.take (k + 1), edgeB n x = true := by
  rw [g_take es k e h]
  intro x hx
  rcases List.mem_append.1 hx with hx | hx
  · exact ha x hx
  · rw [List.mem_singleton.1 hx]; exact he

/-- A block that holds a graph. -/
structure NBox (w : World) (b : Nat) (N : Int) (A : Option Addr) (n c : Nat) : Prop where
  lt : b < w.heap.size
  c0 : w.cell? ⟨b, 0, none⟩ = some (.int .i64 N)
  c1 : w.cell? ⟨b, 1, none⟩ = some (.slice A n c)
section
variable {w w' : World} {b n c : Nat} {N : Int} {A : Option Addr} {e : GE}
theorem NBox.keep (h : NBox w b N A n c) (hs : w.heap.size ≤ w'.heap.size) (hk : w'.heap[b]? = w.heap[b]?) : NBox w' b N A n c :=
  ⟨Nat.lt_of_lt_of_le h.lt hs, (World.cell?_of_block (a := ⟨b, 0, none⟩) hk).trans h.c0, (World.cell?_of_block (a := ⟨b, 1, none⟩) hk).trans h.c1⟩
theorem NBox.below (h : NBox w b N A n c) (hb : Below w.heap.size w w') : NBox w' b N A n c := h.keep hb.size (hb.block b h.lt)
theorem NBox.new (w : World) (N : Int) (A : Option Addr) (n c : Nat) (t : TypeId) : NBox (w.alloc (.cells #[.int .i64 N, .slice A n c] t)) w.heap.size N A n c := ⟨by simp, by simp, by simp⟩
theorem NBox.alloc (h : NBox w b N A n c) (o : Obj) : NBox (w.alloc o) b N A n c := h.below (below_a1 w o)
end

set_option maxRecDepth 10000 in
set_option maxHeartbeats 1000000 in
theorem implEdgeOk (e : GE) (N : Int) (w : World) :
    Calls Tryd.prog 57 #[.agg #[.int .i64 e.f, .int .i64 e.t, .int .i64 e.w], .int .i64 N] w (GTell w (edgeB N e)) := by
  obtain ⟨f, t, x⟩ := e
  by_cases h1 : 0 ≤ f
  · by_cases h2 : f < N
    · by_cases h3 : 0 ≤ t
      · by_cases h4 : t < N
        · by_cases h5 : 0 ≤ x
          · by_cases h6 : x ≤ 1000
            · have HV : Hid (edgeB N ⟨f, t, x⟩ = true) := Lib.hid (by simp [edgeB, h1, h2, h3, h4, h5, h6])
              go_enter Tryd.func57, Tryd.ntmps57
              go_wp2
              go_ret
              rw [HV.out]
              exact ⟨g_bool (by simp <;> omega), below_a1 _ _⟩
            · have HV : Hid (edgeB N ⟨f, t, x⟩ = false) := Lib.hid (by simp [edgeB, h6])
              go_enter Tryd.func57, Tryd.ntmps57
              go_wp2
              go_ret
              rw [HV.out]
              exact ⟨g_bool (by first | rfl | (simp <;> omega)), below_a1 _ _⟩
          · have HV : Hid (edgeB N ⟨f, t, x⟩ = false) := Lib.hid (by simp [edgeB, h5])
            go_enter Tryd.func57, Tryd.ntmps57
            go_wp2
            go_ret
            rw [HV.out]
            exact ⟨g_bool (by first | rfl | (simp <;> omega)), below_a1 _ _⟩
        · have HV : Hid (edgeB N ⟨f, t, x⟩ = false) := Lib.hid (by simp [edgeB, h4])
          go_enter Tryd.func57, Tryd.ntmps57
          go_wp2
          go_ret
          rw [HV.out]
          exact ⟨g_bool (by first | rfl | (simp <;> omega)), below_a1 _ _⟩
      · have HV : Hid (edgeB N ⟨f, t, x⟩ = false) := Lib.hid (by simp [edgeB, h3])
        go_enter Tryd.func57, Tryd.ntmps57
        go_wp2
        go_ret
        rw [HV.out]
        exact ⟨g_bool (by first | rfl | (simp <;> omega)), below_a1 _ _⟩
    · have HV : Hid (edgeB N ⟨f, t, x⟩ = false) := Lib.hid (by simp [edgeB, h2])
      go_enter Tryd.func57, Tryd.ntmps57
      go_wp2
      go_ret
      rw [HV.out]
      exact ⟨g_bool (by first | rfl | (simp <;> omega)), below_a1 _ _⟩
  · have HV : Hid (edgeB N ⟨f, t, x⟩ = false) := Lib.hid (by simp [edgeB, h1])
    go_enter Tryd.func57, Tryd.ntmps57
    go_wp2
    go_ret
    rw [HV.out]
    exact ⟨g_bool (by first | rfl | (simp <;> omega)), below_a1 _ _⟩

set_option maxRecDepth 10000 in
set_option maxHeartbeats 2000000 in
theorem implGraphOk (N : Int) (A : Option Addr) (n c : Nat) (es : List GE) (w : World) (hr : SlG w A n es) (hn : n ≤ 1048576) :
    Calls Tryd.prog 30 #[.agg #[.int .i64 N, .slice A n c]] w (GTell w (graphB N es)) := by
  have hel := hr.len
  by_cases h1 : 0 ≤ N
  · by_cases h2 : N ≤ 150
    · by_cases h3 : n ≤ 400
      · have CE := Lib.hid (fun e W => implEdgeOk e N W)
        have HR := Lib.hid hr
        have HG : Hid ((∀ x ∈ es, edgeB N x = true) → graphB N es = true) := Lib.hid (fun hh => by
          unfold graphB
          rw [Bool.and_eq_true, decide_eq_true_iff, List.all_eq_true]
          exact ⟨⟨h1, h2, by omega⟩, hh⟩)
        have HEL := Lib.hid hel
        clear hr hel
        go_enter Tryd.func30, Tryd.ntmps30
        go_wp2
        have X0 := Lib.hid (NBox.new w N A n c 38)
        have HB0 := Lib.hid (below_a1 w (.cells #[.int .i64 N, .slice A n c] 38))
        go_loopw [22] (fun i wr => ∃ k : Nat, k ≤ n ∧ i = .int .i64 k ∧ Hid (NBox wr w.heap.size N A n c) ∧ Hid (Below w.heap.size w wr) ∧ Hid (∀ x ∈ es.take k, edgeB N x = true)) (fun i _ => n - (intOf i).toNat)
        case atStart => exact ⟨0, Nat.zero_le _, rfl, X0, HB0, Lib.hid (by simp)⟩
        case round =>
          clear X0 HB0
          obtain ⟨k, hk, rfl, hx, hbel, hall⟩ := hrel
          by_cases hlt : k < n
          · obtain ⟨b, off, e, rfl, hbw, he, c0, c1, c2⟩ := HR.out.at_ hlt
            have c0 := (hbel.out.cell (p := ⟨b, off + k * 3, none⟩) hbw).trans c0
            have c1 := (hbel.out.cell (p := ⟨b, off + k * 3 + 1, none⟩) hbw).trans c1
            have c2 := (hbel.out.cell (p := ⟨b, off + k * 3 + 2, none⟩) hbw).trans c2
            obtain ⟨l0, x0, x1⟩ := hx.out
            have hwle : w.heap.size ≤ wr.heap.size := hbel.out.size
            go_wp2_with fail
            refine (CE.out e _).mono ?_
            rintro e1 w1 ⟨rfl, hb1⟩
            have HB1 := Lib.hid (g_chain (below_a1 wr (.cells #[.int .i64 e.f, .int .i64 e.t, .int .i64 e.w] 76)) hb1)
            have X1 := Lib.hid (hx.out.below HB1.out)
            clear hb1 c0 c1 c2 l0 x0 x1
            cases hv : edgeB N e with
            | true =>
              go_wp2
              go_roundw
              case rel => exact ⟨k + 1, by omega, by go_num, X1, Lib.hid (g_chain hbel.out HB1.out), Lib.hid (all_step he.out hall.out hv)⟩
              case measure => simp [intOf]; omega
            | false =>
              have HV := Lib.hid (graphB_no he.out hv)
              go_wp2
              go_ret
              rw [HV.out]
              exact ⟨rfl, g_chain hbel.out HB1.out⟩
          · obtain rfl : k = n := by omega
            have HV := Lib.hid (HG.out (fun x hx => hall.out x (by rw [List.take_of_length_le (by rw [HEL.out]; exact Nat.le_refl _)]; exact hx)))
            go_wp2
            go_ret
            rw [HV.out]
            exact ⟨rfl, hbel.out⟩
      · have HV : Hid (graphB N es = false) := Lib.hid (by simp [graphB, hel, h3])
        clear hr hel
        go_enter Tryd.func30, Tryd.ntmps30
        go_wp2
        go_ret
        rw [HV.out]
        exact ⟨g_bool (by first | rfl | (simp <;> omega)), below_a1 _ _⟩
    · have HV : Hid (graphB N es = false) := Lib.hid (by simp [graphB, h2])
      clear hr hel
      go_enter Tryd.func30, Tryd.ntmps30
      go_wp2
      go_ret
      rw [HV.out]
      exact ⟨g_bool (by first | rfl | (simp <;> omega)), below_a1 _ _⟩
  · have HV : Hid (graphB N es = false) := Lib.hid (by simp [graphB, h1])
    clear hr hel
    go_enter Tryd.func30, Tryd.ntmps30
    go_wp2
    go_ret
    rw [HV.out]
    exact ⟨g_bool (by first | rfl | (simp <;> omega)), below_a1 _ _⟩
end Go.Proofs.YtlhcobkncceodaaDoor
namespace Go.Proofs.YtlhcobkncceodaaDoor
open Go.RowKit

structure RD where
  p : Int
  s : Int
  it : Int
  dn : Bool
  vs : List Int
  ev : List Int
  nn : Int
  nx : List Nat
/-- What an iteration works on: the values, those of the edges, the next set and the present one. -/
structure SD where
  vs : List Int
  ev : List Int
  nx : List Nat
  nw : List Nat
/-! ### which edges a vertex sees -/
/-! ### what stands for a state -/
/-! ### one edge after the other -/
end Go.Proofs.YtlhcobkncceodaaDoor
namespace Go.Proofs.YtlhcobkncceodaaDoor
open Go.RowKit

def Blk (w : World) (b : Nat) (cs : Array Value) (t : TypeId) : Prop := w.heap[b]? = some (.cells cs t (0, 0))
section
variable {w w' : World} {b : Nat} {cs : Array Value} {t : TypeId}
theorem Blk.lt (h : Blk w b cs t) : b < w.heap.size := (Array.getElem?_eq_some_iff.1 h).1
theorem Blk.cell (h : Blk w b cs t) {i : Nat} {v : Value} (hv : cs[i]? = some v) : w.cell? ⟨b, i, none⟩ = some v := by simp [World.cell?, show w.heap[b]? = _ from h, hv]
theorem Blk.frozen (h : Blk w b cs t) (i : Nat) : w.frozen? ⟨b, i, none⟩ = false := by simp [World.frozen?, show w.heap[b]? = _ from h]
theorem Blk.new (w : World) (cs : Array Value) (t : TypeId) : Blk (w.alloc (.cells cs t)) w.heap.size cs t := World.alloc_heap_new w _
theorem Blk.keep (h : Blk w b cs t) (hk : w'.heap[b]? = w.heap[b]?) : Blk w' b cs t := hk.trans h
theorem Blk.below (h : Blk w b cs t) (hb : Below w.heap.size w w') : Blk w' b cs t := h.keep (hb.block b h.lt)
theorem Blk.alloc (h : Blk w b cs t) (o : Obj) : Blk (w.alloc o) b cs t := h.below (below_a1 w o)
theorem Blk.drew (h : Blk w b cs t) : Blk w.drew b cs t := h
theorem Blk.drewN (h : Blk w b cs t) (n : Nat) : Blk (w.drewN n) b cs t := h
theorem Blk.grown {row : Option Nat} (h : Blk w b cs t) (hg : w.grownBy w' row) (hr : row ≠ some b) : Blk w' b cs t := h.keep (hg.block b h.lt (fun e => hr e.symm))
theorem Blk.other (h : Blk w b cs t) {p : Addr} (hp : b ≠ p.block) (u : Value) : Blk (w.setCell p u) b cs t := h.keep (Below.heap_setCell w p u b hp)
theorem Blk.set (h : Blk w b cs t) (i : Nat) (u : Value) : Blk (w.setCell ⟨b, i, none⟩ u) b (cs.setIfInBounds i u) t := by
  have hlt := h.lt
  have h2 : w.heap[b]? = some (.cells cs t (0, 0)) := h
  unfold Blk World.setCell
  simp [Array.getElem?_modify, h2]
end
end Go.Proofs.YtlhcobkncceodaaDoor
namespace Go.Proofs.YtlhcobkncceodaaDoor
open Go.RowKit

/-- Rows of two kinds of element lie in two blocks. -/
theorem own_types {w : World} {lo1 lo2 e1 e2 s1 s2 n1 n2 : Nat} {v1 v2 : Value} {xs1 xs2 : List Value} (h1 : w.ownsRow lo1 e1 s1 v1 n1 xs1) (h2 : w.ownsRow lo2 e2 s2 v2 n2 xs2) (hne : e1 ≠ e2) : v1.ownBlock = none ∨ v2.ownBlock ≠ v1.ownBlock := by
  rcases h1.2 with ⟨rfl, _⟩ | ⟨g, cap, cur, rfl, _, hb, _⟩
  · exact .inl rfl
  · rcases h2.2 with ⟨rfl, _⟩ | ⟨g2, cap2, cur2, rfl, _, hb2, _⟩
    · exact .inr (by simp [Value.ownBlock])
    · refine .inr (fun e => ?_)
      simp [Value.ownBlock] at e
      subst e
      rw [hb] at hb2
      injection hb2 with h
      injection h with _ h _
      exact hne h
/-- A run that reads. -/
structure RunR (w : World) (r : RD) (A B C : Option Addr) : Prop where
  v : SlI w A r.vs.length r.vs
  e : SlI w B r.ev.length r.ev
  x : Rd w C r.nx.length r.nx
theorem RunR.below {w w' : World} {r : RD} {A B C : Option Addr} (h : RunR w r A B C) (hb : Below w.heap.size w w') : RunR w' r A B C := ⟨h.v.below hb, h.e.below hb, h.x.below hb⟩
/-- A run of the call's own. -/
structure RunO (w : World) (lo : Nat) (r : RD) (A : Option Addr) (c : Nat) (B : Option Addr) (d : Nat) (C : Option Addr) (k : Nat) : Prop where
  v : w.ownsRow lo 3 1 (.slice A r.vs.length c) r.vs.length (vi r.vs)
  e : w.ownsRow lo 3 1 (.slice B r.ev.length d) r.ev.length (vi r.ev)
  x : w.ownsRow lo 5 1 (.slice C r.nx.length k) r.nx.length (vb r.nx)
  ap : (Value.slice A r.vs.length c).ownBlock = none ∨ (Value.slice B r.ev.length d).ownBlock ≠ (Value.slice A r.vs.length c).ownBlock
section
variable {w w' : World} {lo lo' : Nat} {r : RD} {A B C : Option Addr} {c d k : Nat}
theorem RunO.below (h : RunO w lo r A c B d C k) (hb : Below w.heap.size w w') : RunO w' lo r A c B d C k := ⟨own_below h.v hb, own_below h.e hb, own_below h.x hb, h.ap⟩
theorem RunO.mono (h : RunO w lo r A c B d C k) (hl : lo' ≤ lo) : RunO w lo' r A c B d C k := ⟨own_monoG h.v hl, own_monoG h.e hl, own_monoG h.x hl, h.ap⟩
theorem RunO.reads (h : RunO w lo r A c B d C k) (hs : ∀ x ∈ r.nx, x < 256) : RunR w r A B C := ⟨SlI.of_own h.v, SlI.of_own h.e, Rd.of_own h.x hs⟩
/-- Another block is written. -/
theorem RunO.far (h : RunO w lo r A c B d C k) {row : Option Nat} (hg : w.grownBy w' row) (hv : (Value.slice A r.vs.length c).ownBlock = none ∨ row ≠ (Value.slice A r.vs.length c).ownBlock) (he : (Value.slice B r.ev.length d).ownBlock = none ∨ row ≠ (Value.slice B r.ev.length d).ownBlock) (hx : (Value.slice C r.nx.length k).ownBlock = none ∨ row ≠ (Value.slice C r.nx.length k).ownBlock) : RunO w' lo r A c B d C k :=
  ⟨h.v.kept hg (hv.imp id fun h e => h e.symm), h.e.kept hg (he.imp id fun h e => h e.symm), h.x.kept hg (hx.imp id fun h e => h e.symm), h.ap⟩
end
end Go.Proofs.YtlhcobkncceodaaDoor
namespace Go.Proofs.YtlhcobkncceodaaDoor
open Go.RowKit

set_option maxHeartbeats 400000 in
theorem same_any (A B : Option Addr) (n c d : Nat) (xs : List Nat) (w : World) (ha : Rd w A n xs) (hb : Rd w B n xs) (hn : n ≤ 2097152) :
    Calls Tryd.prog 65 #[.slice A n c, .slice B n d] w fun e w' => e = .returned (.bool true) ∧ ∃ m, w' = w.drewN m := by
  go_enter Tryd.func65, Tryd.ntmps65
  go_wp2
  go_loopw [5] (fun i wr => ∃ k : Nat, k ≤ n ∧ i = .int .i64 k ∧ ∃ m, wr = w.drewN m) (fun i _ => n - (intOf i).toNat)
  case atStart => exact ⟨0, Nat.zero_le _, rfl, 0, rfl⟩
  case round =>
    obtain ⟨k, hk, rfl, m, rfl⟩ := hrel
    by_cases hlt : k < n
    · obtain ⟨b, off, x, rfl, hbw, hx, hxs, hc⟩ := ha.at_ hlt
      obtain ⟨b', off', x', rfl, hbw', hx', hxs', hc'⟩ := hb.at_ hlt
      obtain rfl : x = x' := by have := hxs.out.symm.trans hxs'.out; injection this
      go_wp2
      go_quiet (fail)
      go_wp2
      go_roundw
      case rel => exact ⟨k + 1, by omega, by go_num, _, rfl⟩
      case measure => simp [intOf]; omega
    · go_wp2
      go_ret
      exact ⟨rfl, m, rfl⟩
end Go.Proofs.YtlhcobkncceodaaDoor
namespace Go.Proofs.YtlhcobkncceodaaDoor
open Go.RowKit

/-- Shapes of plain data; a struct is a chain of pairs. -/
inductive Sh where
  | int (k : IntKind)
  | bool
  | str
  | sl (e : Sh)
  | pair (a b : Sh)

def Sh.size : Sh → Nat
  | .int _ => 1
  | .bool => 1
  | .str => 1
  | .sl _ => 1
  | .pair a b => a.size + b.size
def Sh.D : Sh → Type
  | .int _ => Int
  | .bool => Bool
  | .str => ByteArray
  | .sl e => List e.D
  | .pair a b => a.D × b.D

/-- The cells from an address on. -/
def CellsAt (w : World) (b off : Nat) (cs : List Value) : Prop := ∀ (i : Nat) (v : Value), cs[i]? = some v → w.cell? ⟨b, off + i, none⟩ = some v
theorem CellsAt.same {w w' : World} {b off : Nat} {cs : List Value} (h : CellsAt w b off cs) (hb : w'.heap[b]? = w.heap[b]?) : CellsAt w' b off cs :=
  fun i v hv => (World.cell?_of_block (a := ⟨b, off + i, none⟩) hb).trans (h i v hv)

def RdR (lo hi : Nat) (w : World) : (s : Sh) → List Value → s.D → Prop
  | .int k, cs, n => cs = [.int k n] ∧ (Lit.int k n).wf = true
  | .bool, cs, b => cs = [.bool b]
  | .str, cs, x => cs = [.string x] ∧ ByteArray.size x ≤ maxLen
  | .sl e, cs, ds => ∃ A n c, cs = [.slice A n c] ∧ List.length ds = n ∧ n ≤ c ∧ c ≤ maxLen ∧ (0 < n → ∃ b off, A = some ⟨b, off, none⟩ ∧ lo ≤ b ∧ b < hi ∧
      ∀ (j : Nat) (d : e.D), (show List e.D from ds)[j]? = some d → ∃ es, es.length = e.size ∧ CellsAt w b (off + j * e.size) es ∧ RdR lo hi w e es d)
  | .pair a b, cs, d => ∃ c1 c2, cs = c1 ++ c2 ∧ c1.length = a.size ∧ RdR lo hi w a c1 d.1 ∧ RdR lo hi w b c2 d.2

theorem RdR.len {lo hi : Nat} {w : World} : ∀ {s : Sh} {cs : List Value} {d : s.D}, RdR lo hi w s cs d → cs.length = s.size
  | .int _, _, _, h => by rw [h.1]; rfl
  | .bool, _, _, h => by rw [show _ = _ from h]; rfl
  | .str, _, _, h => by rw [h.1]; rfl
  | .sl _, _, _, h => by obtain ⟨_, _, _, e, _⟩ := h; rw [e]; rfl
  | .pair _ _, _, _, h => by
    obtain ⟨c1, c2, e, h1, _, h2⟩ := h
    rw [e, List.length_append, h1, RdR.len h2]
    rfl

/-- Where the blocks from lo on and below hi are as they were, the reading is too; and the bounds may be widened. -/
theorem RdR.keep {lo hi lo' hi' : Nat} {w w' : World} (hl : lo' ≤ lo) (hh : hi ≤ hi') (hs : ∀ k, lo ≤ k → k < hi → w'.heap[k]? = w.heap[k]?) :
    ∀ {s : Sh} {cs : List Value} {d : s.D}, RdR lo hi w s cs d → RdR lo' hi' w' s cs d
  | .int _, _, _, h => h
  | .bool, _, _, h => h
  | .str, _, _, h => h
  | .sl e, _, _, h => by
    obtain ⟨A, n, c, e1, e2, e3, e4, h⟩ := h
    refine ⟨A, n, c, e1, e2, e3, e4, fun hn => ?_⟩
    obtain ⟨b, off, eA, hb1, hb2, h⟩ := h hn
    refine ⟨b, off, eA, by omega, by omega, fun j d hd => ?_⟩
    obtain ⟨es, hl2, hc, hr⟩ := h j d hd
    exact ⟨es, hl2, hc.same (hs b hb1 hb2), RdR.keep hl hh hs hr⟩
  | .pair _ _, _, _, h => by
    obtain ⟨c1, c2, e, h1, ha, hb⟩ := h
    exact ⟨c1, c2, e, h1, RdR.keep hl hh hs ha, RdR.keep hl hh hs hb⟩

theorem RdR.below {lo hi B : Nat} {w w' : World} {s : Sh} {cs : List Value} {d : s.D} (h : RdR lo hi w s cs d) (hb : Below B w w') (hB : hi ≤ B) : RdR lo hi w' s cs d :=
  h.keep (Nat.le_refl _) (Nat.le_refl _) (fun k _ hk => hb.block k (by omega))
/-- The element at place j of a slice that reads so. -/
theorem RdR.at_ {lo hi : Nat} {w : World} {e : Sh} {A : Option Addr} {n c j : Nat} {ds : List e.D} (h : RdR lo hi w (.sl e) [.slice A n c] ds) (hj : j < n) :
    ∃ (b off : Nat) (es : List Value) (d : e.D), A = some ⟨b, off, none⟩ ∧ lo ≤ b ∧ b < hi ∧ Hid (ds[j]? = some d) ∧ es.length = e.size ∧ CellsAt w b (off + j * e.size) es ∧ RdR lo hi w e es d := by
  obtain ⟨A', n', c', e1, e2, _, _, h⟩ := h
  simp only [List.cons.injEq, Value.slice.injEq, and_true] at e1
  obtain ⟨rfl, rfl, rfl⟩ := e1
  obtain ⟨b, off, eA, hb1, hb2, h⟩ := h (by omega)
  have hl : j < List.length ds := by omega
  obtain ⟨es, h1, h2, h3⟩ := h j ds[j] (List.getElem?_eq_getElem hl)
  exact ⟨b, off, es, ds[j], eA, hb1, hb2, List.getElem?_eq_getElem hl, h1, h2, h3⟩
theorem add_plain (b off j : Nat) : ((⟨b, off, none⟩ : Addr).add j) = ⟨b, off + j, none⟩ := by unfold Addr.add; split <;> simp_all
theorem add_spot {w : World} {a : Addr} {v : Value} (h : w.cell? (a.add 0) = some v) : a.spot = none := by
  have h1 := World.cell?_spot h
  simpa [Addr.add] using h1

section
variable {H : Type} {enc : TypeId × Value → H} {P : Program} {w : World} {base : Nat} {spare : Nat → Bool} {held : Bool}

/-- Whatever reads at the type t (as the form reads arguments) reads as a datum of the shape s. -/
def Opens (enc : TypeId × Value → H) (P : Program) (w : World) (base : Nat) (spare : Nat → Bool) (held : Bool) (t : TypeId) (s : Sh) : Prop :=
  ∀ (fuel : Nat) (cs : List Value) (x : DataW H × List MemPlace), DataW.trod enc P w base spare held fuel t cs = some x → ∃ d : s.D, RdR 0 w.heap.size w s cs d
theorem opens_int {t : TypeId} {k : IntKind} (ht : P.underlying t = some (.int k)) : Opens enc P w base spare held t (.int k) := fun _ _ _ h => by
  obtain ⟨n, e, _, hw⟩ := DataW.trod_int ht h
  exact ⟨n, e, hw⟩
theorem opens_sl {t e : TypeId} {s : Sh} (ht : P.underlying t = some (.slice e)) (hc : P.cellsOf e = s.size) (hs : 0 < s.size) (ho : Opens enc P w base spare held e s) : Opens enc P w base spare held t (.sl s) := fun _ _ _ h => by
  rcases DataW.trod_slice ht h with ⟨rfl, _⟩ | ⟨a, len, cap, elems, rest, n, _, rfl, _, _, hl, hmx, hlen, hel, hsp1, hsp2⟩
  · exact ⟨([] : List s.D), none, 0, 0, rfl, rfl, Nat.le_refl _, Nat.zero_le _, fun h0 => absurd h0 (by omega)⟩
  · have each : ∀ i, i < len → ∃ (es : List Value) (d : s.D), es.length = s.size ∧ (∀ j, j < s.size → w.cell? (a.add (i * s.size + j)) = es[j]?) ∧ RdR 0 w.heap.size w s es d := by
      intro i hi
      have h1 := hel i hi
      rw [List.getElem?_eq_getElem (by omega), Option.bind_eq_some_iff] at h1
      obtain ⟨es, hes, htr⟩ := h1
      obtain ⟨_, h2, h3⟩ := World.cells?_some hes
      obtain ⟨d, hd⟩ := ho _ _ _ htr
      refine ⟨es, d, by rw [h2, hc], fun j hj => ?_, hd⟩
      have := h3 j (by rw [hc]; exact hj)
      rw [hc] at this
      rw [← this]
      congr 1
      unfold Addr.add
      by_cases h01 : i * s.size = 0 <;> by_cases h02 : j = 0 <;> simp [h01, h02, Nat.add_assoc]
    have hall : ∃ ds : List s.D, ds.length = len ∧ ∀ (i : Nat) (d : s.D), ds[i]? = some d → ∃ es : List Value, es.length = s.size ∧ (∀ j, j < s.size → w.cell? (a.add (i * s.size + j)) = es[j]?) ∧ RdR 0 w.heap.size w s es d := by
      clear hel h hl hlen hsp1 hsp2
      induction len with
      | zero => exact ⟨[], rfl, fun i d h => by simp at h⟩
      | succ m ih =>
        obtain ⟨ds, hd1, hd2⟩ := ih (fun i hi => each i (by omega))
        obtain ⟨es, d, h1, h2, h3⟩ := each m (by omega)
        refine ⟨ds ++ [d], by simp [hd1], fun i d' hi => ?_⟩
        rcases Nat.lt_trichotomy i m with hlt | heq | hgt
        · rw [List.getElem?_append_left (by omega)] at hi
          exact hd2 i d' hi
        · subst heq
          rw [List.getElem?_append_right (by omega), hd1, Nat.sub_self] at hi
          simp at hi
          subst hi
          exact ⟨es, h1, h2, h3⟩
        · rw [List.getElem?_eq_none (by simp; omega)] at hi
          cases hi
    obtain ⟨ds, hd1, hd2⟩ := hall
    refine ⟨ds, some a, len, cap, rfl, hd1, hl, hmx, fun h0 => ?_⟩
    obtain ⟨es0, d0, h1, h2, _⟩ := each 0 h0
    have hc0 : w.cell? (a.add 0) = some es0[0] := by
      have := h2 0 hs
      rw [Nat.zero_mul, Nat.add_zero] at this
      rw [this, List.getElem?_eq_getElem (by omega)]
    have hsp := add_spot hc0
    obtain ⟨b, off, sp⟩ := a
    simp only at hsp
    subst hsp
    have hlt : b < w.heap.size := by
      rw [add_plain] at hc0
      exact World.block_lt_of_cell? w _ hc0
    refine ⟨b, off, rfl, Nat.zero_le _, hlt, fun j d hj => ?_⟩
    obtain ⟨es, h3, h4, h5⟩ := hd2 j d hj
    refine ⟨es, h3, fun i v hv => ?_, h5⟩
    have hi : i < s.size := by have := (List.getElem?_eq_some_iff.1 hv).1; omega
    have := h4 i hi
    rw [add_plain, ← Nat.add_assoc] at this
    rw [this, hv]

/-- The fields of a struct from one on. -/
def OpensF (enc : TypeId × Value → H) (P : Program) (w : World) (base : Nat) (spare : Nat → Bool) (held : Bool) (fs : List Field) (off : Nat) (s : Sh) : Prop :=
  ∀ cs : List Value, (∀ f ∈ fs, ∃ (n : Nat) (y : DataW H × List MemPlace), DataW.trod enc P w base spare held n f.type ((cs.drop f.offset).take (P.cellsOf f.type)) = some y) → cs.length = off + s.size → ∃ d : s.D, RdR 0 w.heap.size w s (cs.drop off) d
theorem opensF_last {f : Field} {off : Nat} {s : Sh} (h1 : f.offset = off) (hc : P.cellsOf f.type = s.size) (ho : Opens enc P w base spare held f.type s) : OpensF enc P w base spare held [f] off s := fun cs hf hl => by
  obtain ⟨n, y, h⟩ := hf f (by simp)
  obtain ⟨d, hd⟩ := ho _ _ _ h
  rw [h1, hc, List.take_of_length_le (by rw [List.length_drop]; omega)] at hd
  exact ⟨d, hd⟩
theorem opensF_cons {f : Field} {fs : List Field} {off : Nat} {a b : Sh} (h1 : f.offset = off) (hc : P.cellsOf f.type = a.size) (ho : Opens enc P w base spare held f.type a) (hr : OpensF enc P w base spare held fs (off + a.size) b) :
    OpensF enc P w base spare held (f :: fs) off (.pair a b) := fun cs hf hl => by
  obtain ⟨n, y, h⟩ := hf f (by simp)
  obtain ⟨d, hd⟩ := ho _ _ _ h
  rw [h1, hc] at hd
  have hsz : (Sh.pair a b).size = a.size + b.size := rfl
  obtain ⟨d2, hd2⟩ := hr cs (fun g hg => hf g (by simp [hg])) (by rw [hl, hsz]; omega)
  refine ⟨(d, d2), _, _, ?_, hd.len, hd, hd2⟩
  rw [← List.drop_drop]
  exact (List.take_append_drop _ _).symm
theorem opens_struct {t : TypeId} {fs : Array Field} {s : Sh} (ht : P.underlying t = some (.struct fs)) (hc : P.cellsOf t = s.size) (hf : OpensF enc P w base spare held fs.toList 0 s) : Opens enc P w base spare held t s := fun _ cs _ h => by
  obtain ⟨xs, n, _, _, hl, hlen, hall⟩ := DataW.trod_struct ht h
  obtain ⟨d, hd⟩ := hf cs (fun f hfm => by
    obtain ⟨i, hi, he⟩ := List.getElem_of_mem hfm
    have hi2 : i < fs.size := by simpa using hi
    have h1 := hall i f (by rw [← he]; simp [hi2])
    rw [List.getElem?_eq_getElem (by omega)] at h1
    exact ⟨n, _, h1⟩) (by rw [hl, hc]; omega)
  exact ⟨d, by simpa using hd⟩
end
end Go.Proofs.YtlhcobkncceodaaDoor
namespace Go.Proofs.YtlhcobkncceodaaDoor
open Go.RowKit

/-- A number, a truth value, and the old memory as it was. -/
def FNum (w : World) (b : Int) (e : Ending) (w' : World) : Prop := e = .returned (.int .i64 b) ∧ Below w.heap.size w w'
def FTell (w : World) (b : Bool) (e : Ending) (w' : World) : Prop := e = .returned (.bool b) ∧ Below w.heap.size w w'
/-! ### valid frames -/
/-! ### an argument that is a frame -/
section
variable {H : Type} {enc : TypeId × Value → H} {w : World} {base : Nat} {spare : Nat → Bool} {held : Bool}
end
end Go.Proofs.YtlhcobkncceodaaDoor
namespace Go.Proofs.YtlhcobkncceodaaDoor
open Go.RowKit

/-- A block that holds two cells. -/
structure Box2 (w : World) (b : Nat) (v0 v1 : Value) : Prop where
  lt : b < w.heap.size
  c0 : w.cell? ⟨b, 0, none⟩ = some v0
  c1 : w.cell? ⟨b, 1, none⟩ = some v1
section
variable {w w' : World} {b : Nat} {v0 v1 : Value}
theorem Box2.keep (h : Box2 w b v0 v1) (hs : w.heap.size ≤ w'.heap.size) (hk : w'.heap[b]? = w.heap[b]?) : Box2 w' b v0 v1 :=
  ⟨Nat.lt_of_lt_of_le h.lt hs, (World.cell?_of_block (a := ⟨b, 0, none⟩) hk).trans h.c0, (World.cell?_of_block (a := ⟨b, 1, none⟩) hk).trans h.c1⟩
theorem Box2.below (h : Box2 w b v0 v1) (hb : Below w.heap.size w w') : Box2 w' b v0 v1 := h.keep hb.size (hb.block b h.lt)
theorem Box2.new (w : World) (v0 v1 : Value) (t : TypeId) : Box2 (w.alloc (.cells #[v0, v1] t)) w.heap.size v0 v1 := ⟨by simp, by simp, by simp⟩
end
end Go.Proofs.YtlhcobkncceodaaDoor
namespace Go.Proofs.YtlhcobkncceodaaDoor
open Go.RowKit
set_option linter.unusedVariables false

/-- The table of the weights. -/
structure Wts (w : World) : Prop where
  lt : 0 < w.heap.size
  at_ : ∀ i : Nat, i < 8 → w.cell? ⟨0, i, none⟩ = some (.int .u8 ((2 ^ i : Nat) : Int))
theorem Wts.below {w w' : World} (h : Wts w) (hb : Below w.heap.size w w') : Wts w' :=
  ⟨Nat.lt_of_lt_of_le h.lt hb.size, fun i hi => (hb.cell (p := ⟨0, i, none⟩) h.lt).trans (h.at_ i hi)⟩
theorem Wts.other {w w' : World} {row : Option Nat} (h : Wts w) (hg : w.grownBy w' row) (hr : row ≠ some 0) : Wts w' :=
  ⟨Nat.lt_of_lt_of_le h.lt hg.size, fun i hi => (World.cell?_of_block (a := ⟨0, i, none⟩) (hg.block _ h.lt (fun e => hr e.symm))).trans (h.at_ i hi)⟩
theorem s_chain {w W W' : World} (h : Below w.heap.size w W) (k : Below W.heap.size W W') : Below w.heap.size w W' := h.trans (k.mono h.size)
/-- A new set. -/
def MadeS (w : World) (N : Int) (xs : List Nat) (e : Ending) (w' : World) : Prop :=
  ∃ A c, e = .returned (.agg #[.int .i64 N, .slice A xs.length c]) ∧ w'.ownsRow w.heap.size 5 1 (.slice A xs.length c) xs.length (vb xs) ∧ Below w.heap.size w w'
def MadeSB (w : World) (N : Int) (xs : List Nat) (b : Bool) (e : Ending) (w' : World) : Prop :=
  ∃ A c, e = .returned (.tuple #[.agg #[.int .i64 N, .slice A xs.length c], .bool b]) ∧ w'.ownsRow w.heap.size 5 1 (.slice A xs.length c) xs.length (vb xs) ∧ Below w.heap.size w w'
theorem own_nil (w : World) (lo : Nat) : w.ownsRow lo 5 1 (.slice none 0 0) 0 (vb []) := ⟨rfl, .inl ⟨rfl, rfl⟩⟩
theorem Box2.far {w w' : World} {b : Nat} {v0 v1 : Value} (h : Box2 w b v0 v1) {row : Option Nat} (hg : w.grownBy w' row) {l2 h2 : Nat} (hb : ∀ k, row = some k → l2 ≤ k ∧ k < h2) (hd : b < l2 ∨ h2 ≤ b) : Box2 w' b v0 v1 :=
  h.keep hg.size (hg.block _ h.lt (fun e => by have := hb b e.symm; omega))
/-- A block that is a set, and may be written. -/
def SBx (w : World) (b : Nat) (N : Int) (A : Option Addr) (n c : Nat) : Prop := Blk w b #[.int .i64 N, .slice A n c] 41
section
variable {w w' : World} {b n c : Nat} {N : Int} {A : Option Addr}
theorem SBx.new (w : World) (N : Int) (A : Option Addr) (n c : Nat) : SBx (w.alloc (.cells #[.int .i64 N, .slice A n c] 41)) w.heap.size N A n c := Blk.new _ _ _
theorem SBx.new1 (w : World) (o : Obj) (N : Int) (A : Option Addr) (n c : Nat) : SBx ((w.alloc o).alloc (.cells #[.int .i64 N, .slice A n c] 41)) (w.heap.size + 1) N A n c := by
  have h := SBx.new (w.alloc o) N A n c
  rw [World.size_alloc] at h
  exact h
theorem SBx.keep (h : SBx w b N A n c) (hk : w'.heap[b]? = w.heap[b]?) : SBx w' b N A n c := Blk.keep h hk
theorem SBx.below (h : SBx w b N A n c) (hb : Below w.heap.size w w') : SBx w' b N A n c := Blk.below h hb
theorem SBx.parts (h : SBx w b N A n c) : b < w.heap.size ∧ w.cell? ⟨b, 0, none⟩ = some (.int .i64 N) ∧ w.cell? ⟨b, 1, none⟩ = some (.slice A n c) ∧ w.frozen? ⟨b, 0, none⟩ = false ∧ w.frozen? ⟨b, 1, none⟩ = false :=
  ⟨Blk.lt h, Blk.cell h (i := 0) rfl, Blk.cell h (i := 1) rfl, Blk.frozen h 0, Blk.frozen h 1⟩
theorem SBx.set (h : SBx w b N A n c) (N' : Int) (A' : Option Addr) (n' c' : Nat) : SBx ((w.setCell ⟨b, 0, none⟩ (.int .i64 N')).setCell ⟨b, 1, none⟩ (.slice A' n' c')) b N' A' n' c' := Blk.set (Blk.set h 0 (.int .i64 N')) 1 (.slice A' n' c')
theorem SBx.grown {row : Option Nat} (h : SBx w b N A n c) (hg : w.grownBy w' row) (hr : row ≠ some b) : SBx w' b N A n c := Blk.grown h hg hr
end
theorem below_set2 {B b : Nat} {a w : World} (h : Below B a w) (hb : B ≤ b) (u v : Value) : Below B a ((w.setCell ⟨b, 0, none⟩ u).setCell ⟨b, 1, none⟩ v) := (h.setCell hb u).setCell hb v
theorem own_set2 {w : World} {lo e size n b : Nat} {v : Value} {xs : List Value} (h : w.ownsRow lo e size v n xs) (hb : b < lo) (u u' : Value) : ((w.setCell ⟨b, 0, none⟩ u).setCell ⟨b, 1, none⟩ u').ownsRow lo e size v n xs := own_lowG (own_lowG h hb u) hb u'
end Go.Proofs.YtlhcobkncceodaaDoor
namespace Go.Proofs.YtlhcobkncceodaaDoor
open Go.RowKit
set_option linter.unusedVariables false

theorem grown_cell (w : World) (b i : Nat) (u : Value) : w.grownBy (w.setCell ⟨b, i, none⟩ u) (some b) :=
  ⟨rfl, rfl, rfl, by simp, fun k _ hk => Below.heap_setCell w ⟨b, i, none⟩ u k (fun e => hk (by rw [show k = b from e]))⟩
/-- Eight cells of one run stored. -/
def layR (w : World) (b : Nat) (x0 x1 x2 x3 x4 x5 x6 x7 : Value) : World :=
  (((((((w.setCell ⟨b, 0, none⟩ x0).setCell ⟨b, 1, none⟩ x1).setCell ⟨b, 2, none⟩ x2).setCell ⟨b, 3, none⟩ x3).setCell ⟨b, 4, none⟩ x4).setCell ⟨b, 5, none⟩ x5).setCell ⟨b, 6, none⟩ x6).setCell ⟨b, 7, none⟩ x7
section
variable {w w' : World} {b : Nat} {x0 x1 x2 x3 x4 x5 x6 x7 y0 y1 y2 y3 y4 y5 y6 y7 : Value} {t : TypeId}
theorem layR_grown (w : World) (b : Nat) (x0 x1 x2 x3 x4 x5 x6 x7 : Value) : w.grownBy (layR w b x0 x1 x2 x3 x4 x5 x6 x7) (some b) :=
  (((((((grown_cell w b 0 x0).trans (grown_cell _ b 1 x1)).trans (grown_cell _ b 2 x2)).trans (grown_cell _ b 3 x3)).trans (grown_cell _ b 4 x4)).trans (grown_cell _ b 5 x5)).trans (grown_cell _ b 6 x6)).trans (grown_cell _ b 7 x7)
theorem layR_blk (h : Blk w b #[y0, y1, y2, y3, y4, y5, y6, y7] t) : Blk (layR w b x0 x1 x2 x3 x4 x5 x6 x7) b #[x0, x1, x2, x3, x4, x5, x6, x7] t := by
  have h1 : Blk (w.setCell ⟨b, 0, none⟩ x0) b #[x0, y1, y2, y3, y4, y5, y6, y7] t := Blk.set h 0 x0
  have h2 : Blk ((w.setCell ⟨b, 0, none⟩ x0).setCell ⟨b, 1, none⟩ x1) b #[x0, x1, y2, y3, y4, y5, y6, y7] t := Blk.set h1 1 x1
  have h3 : Blk (((w.setCell ⟨b, 0, none⟩ x0).setCell ⟨b, 1, none⟩ x1).setCell ⟨b, 2, none⟩ x2) b #[x0, x1, x2, y3, y4, y5, y6, y7] t := Blk.set h2 2 x2
  have h4 : Blk ((((w.setCell ⟨b, 0, none⟩ x0).setCell ⟨b, 1, none⟩ x1).setCell ⟨b, 2, none⟩ x2).setCell ⟨b, 3, none⟩ x3) b #[x0, x1, x2, x3, y4, y5, y6, y7] t := Blk.set h3 3 x3
  have h5 : Blk (((((w.setCell ⟨b, 0, none⟩ x0).setCell ⟨b, 1, none⟩ x1).setCell ⟨b, 2, none⟩ x2).setCell ⟨b, 3, none⟩ x3).setCell ⟨b, 4, none⟩ x4) b #[x0, x1, x2, x3, x4, y5, y6, y7] t := Blk.set h4 4 x4
  have h6 : Blk ((((((w.setCell ⟨b, 0, none⟩ x0).setCell ⟨b, 1, none⟩ x1).setCell ⟨b, 2, none⟩ x2).setCell ⟨b, 3, none⟩ x3).setCell ⟨b, 4, none⟩ x4).setCell ⟨b, 5, none⟩ x5) b #[x0, x1, x2, x3, x4, x5, y6, y7] t := Blk.set h5 5 x5
  have h7 : Blk (((((((w.setCell ⟨b, 0, none⟩ x0).setCell ⟨b, 1, none⟩ x1).setCell ⟨b, 2, none⟩ x2).setCell ⟨b, 3, none⟩ x3).setCell ⟨b, 4, none⟩ x4).setCell ⟨b, 5, none⟩ x5).setCell ⟨b, 6, none⟩ x6) b #[x0, x1, x2, x3, x4, x5, x6, y7] t := Blk.set h6 6 x6
  have h8 : Blk ((((((((w.setCell ⟨b, 0, none⟩ x0).setCell ⟨b, 1, none⟩ x1).setCell ⟨b, 2, none⟩ x2).setCell ⟨b, 3, none⟩ x3).setCell ⟨b, 4, none⟩ x4).setCell ⟨b, 5, none⟩ x5).setCell ⟨b, 6, none⟩ x6).setCell ⟨b, 7, none⟩ x7) b #[x0, x1, x2, x3, x4, x5, x6, x7] t := Blk.set h7 7 x7
  exact h8
/-- What a block of eight cells reads. -/
theorem Blk.eight (h : Blk w b #[y0, y1, y2, y3, y4, y5, y6, y7] t) : b < w.heap.size ∧ w.cell? ⟨b, 0, none⟩ = some y0 ∧ w.cell? ⟨b, 1, none⟩ = some y1 ∧ w.cell? ⟨b, 2, none⟩ = some y2 ∧ w.cell? ⟨b, 3, none⟩ = some y3 ∧ w.cell? ⟨b, 4, none⟩ = some y4 ∧ w.cell? ⟨b, 5, none⟩ = some y5 ∧ w.cell? ⟨b, 6, none⟩ = some y6 ∧ w.cell? ⟨b, 7, none⟩ = some y7 :=
  ⟨h.lt, h.cell rfl, h.cell rfl, h.cell rfl, h.cell rfl, h.cell rfl, h.cell rfl, h.cell rfl, h.cell rfl⟩
theorem Blk.eightF (h : Blk w b #[y0, y1, y2, y3, y4, y5, y6, y7] t) : w.frozen? ⟨b, 0, none⟩ = false ∧ w.frozen? ⟨b, 1, none⟩ = false ∧ w.frozen? ⟨b, 2, none⟩ = false ∧ w.frozen? ⟨b, 3, none⟩ = false ∧ w.frozen? ⟨b, 4, none⟩ = false ∧ w.frozen? ⟨b, 5, none⟩ = false ∧ w.frozen? ⟨b, 6, none⟩ = false ∧ w.frozen? ⟨b, 7, none⟩ = false :=
  ⟨h.frozen 0, h.frozen 1, h.frozen 2, h.frozen 3, h.frozen 4, h.frozen 5, h.frozen 6, h.frozen 7⟩
end
/-- A row of one type does not lie in a block of another. -/
theorem own_kind {w : World} {lo e size n b : Nat} {v : Value} {xs : List Value} {cs : Array Value} {t : TypeId} (h : w.ownsRow lo e size v n xs) (hb : Blk w b cs t) (hne : e ≠ t) : v.ownBlock ≠ some b := by
  rcases h.2 with ⟨rfl, _⟩ | ⟨g, cap, cur, rfl, _, hg, _⟩
  · simp [Value.ownBlock]
  · intro e3
    have e3 : g = b := by simpa [Value.ownBlock] using e3
    subst e3
    have h9 : w.heap[g]? = some (.cells cs t (0, 0)) := hb
    rw [hg] at h9
    injection h9 with h9
    injection h9 with _ h2
    exact absurd h2 hne
theorem own_kept {w w' : World} {lo e size n g : Nat} {v : Value} {xs : List Value} (h : w.ownsRow lo e size v n xs) (hg : w.grownBy w' (some g)) (hne : v.ownBlock ≠ some g) : w'.ownsRow lo e size v n xs :=
  h.kept hg (.inr hne)
/-- The three rows of a run of the call's own. -/
structure Rows3 (w : World) (lo : Nat) (A : Option Addr) (n c : Nat) (B : Option Addr) (m d : Nat) (C : Option Addr) (j k : Nat) (vs ev : List Int) (nx : List Nat) : Prop where
  v : w.ownsRow lo 3 1 (.slice A n c) n (vi vs)
  e : w.ownsRow lo 3 1 (.slice B m d) m (vi ev)
  x : w.ownsRow lo 5 1 (.slice C j k) j (vb nx)
  ap : (Value.slice A n c).ownBlock = none ∨ (Value.slice B m d).ownBlock ≠ (Value.slice A n c).ownBlock
theorem Rows3.below {w w' : World} {lo n c m d j k : Nat} {A B C : Option Addr} {vs ev : List Int} {nx : List Nat} (h : Rows3 w lo A n c B m d C j k vs ev nx) (hb : Below w.heap.size w w') : Rows3 w' lo A n c B m d C j k vs ev nx := ⟨own_below h.v hb, own_below h.e hb, own_below h.x hb, h.ap⟩
theorem Rows3.mono {w : World} {lo lo' n c m d j k : Nat} {A B C : Option Addr} {vs ev : List Int} {nx : List Nat} (h : Rows3 w lo A n c B m d C j k vs ev nx) (hl : lo' ≤ lo) : Rows3 w lo' A n c B m d C j k vs ev nx := ⟨own_monoG h.v hl, own_monoG h.e hl, own_monoG h.x hl, h.ap⟩
theorem Rows3.len {w : World} {lo n c m d j k : Nat} {A B C : Option Addr} {vs ev : List Int} {nx : List Nat} (h : Rows3 w lo A n c B m d C j k vs ev nx) : vs.length = n ∧ ev.length = m ∧ nx.length = j := by
  have h1 := h.v.1; have h2 := h.e.1; have h3 := h.x.1
  rw [vi_len] at h1 h2
  rw [vb_length] at h3
  omega
/-- A run that stands in a block of its own, with rows of its own; all of it at lo and above. -/
structure RSt (w : World) (lo b : Nat) (p s it : Int) (dn : Bool) (A : Option Addr) (n c : Nat) (B : Option Addr) (m d : Nat) (nn : Int) (C : Option Addr) (j k : Nat) (vs ev : List Int) (nx : List Nat) : Prop where
  bx : Blk w b #[.int .i64 p, .int .i64 s, .int .i64 it, .bool dn, .slice A n c, .slice B m d, .int .i64 nn, .slice C j k] 43
  v : w.ownsRow lo 3 1 (.slice A n c) n (vi vs)
  e : w.ownsRow lo 3 1 (.slice B m d) m (vi ev)
  x : w.ownsRow lo 5 1 (.slice C j k) j (vb nx)
  ap : (Value.slice A n c).ownBlock = none ∨ (Value.slice B m d).ownBlock ≠ (Value.slice A n c).ownBlock
  lb : lo ≤ b
section
variable {w w' : World} {lo b n c m d j k : Nat} {p s it nn : Int} {dn : Bool} {A B C : Option Addr} {vs ev : List Int} {nx : List Nat}
theorem RSt.below (h : RSt w lo b p s it dn A n c B m d nn C j k vs ev nx) (hb : Below w.heap.size w w') : RSt w' lo b p s it dn A n c B m d nn C j k vs ev nx :=
  ⟨h.bx.below hb, own_below h.v hb, own_below h.e hb, own_below h.x hb, h.ap, h.lb⟩
theorem RSt.mono (h : RSt w lo b p s it dn A n c B m d nn C j k vs ev nx) {lo' : Nat} (hl : lo' ≤ lo) : RSt w lo' b p s it dn A n c B m d nn C j k vs ev nx :=
  ⟨h.bx, own_monoG h.v hl, own_monoG h.e hl, own_monoG h.x hl, h.ap, Nat.le_trans hl h.lb⟩
theorem RSt.rows (h : RSt w lo b p s it dn A n c B m d nn C j k vs ev nx) : Rows3 w lo A n c B m d C j k vs ev nx := ⟨h.v, h.e, h.x, h.ap⟩
/-- Another block of the call's own is written. -/
theorem RSt.other (h : RSt w lo b p s it dn A n c B m d nn C j k vs ev nx) {g : Nat} (hg : w.grownBy w' (some g)) (h0 : g ≠ b) (h1 : (Value.slice A n c).ownBlock ≠ some g) (h2 : (Value.slice B m d).ownBlock ≠ some g) (h3 : (Value.slice C j k).ownBlock ≠ some g) : RSt w' lo b p s it dn A n c B m d nn C j k vs ev nx :=
  ⟨h.bx.grown hg (fun e => h0 (by injection e)), own_kept h.v hg h1, own_kept h.e hg h2, own_kept h.x hg h3, h.ap, h.lb⟩
theorem RSt.parts (h : RSt w lo b p s it dn A n c B m d nn C j k vs ev nx) : (b < w.heap.size ∧ w.cell? ⟨b, 0, none⟩ = some (.int .i64 p) ∧ w.cell? ⟨b, 1, none⟩ = some (.int .i64 s) ∧ w.cell? ⟨b, 2, none⟩ = some (.int .i64 it) ∧ w.cell? ⟨b, 3, none⟩ = some (.bool dn) ∧ w.cell? ⟨b, 4, none⟩ = some (.slice A n c) ∧ w.cell? ⟨b, 5, none⟩ = some (.slice B m d) ∧ w.cell? ⟨b, 6, none⟩ = some (.int .i64 nn) ∧ w.cell? ⟨b, 7, none⟩ = some (.slice C j k)) ∧ (∀ i, w.frozen? ⟨b, i, none⟩ = false) :=
  ⟨h.bx.eight, fun i => h.bx.frozen i⟩
end
end Go.Proofs.YtlhcobkncceodaaDoor
namespace Go.Proofs.YtlhcobkncceodaaDoor
open Go.RowKit

def Apart (a b : Dat) : Prop := a.v.ownBlock = none ∨ a.v.ownBlock ≠ b.v.ownBlock

/-- Slices of bytes of the call's own. -/
structure OwnB (w : World) (lo : Nat) (l : List Dat) : Prop where
  own : ∀ d ∈ l, w.ownsRow lo 5 1 d.v d.n (vb d.xs)
  small : ∀ d ∈ l, ∀ x ∈ d.xs, x < 256
  apart : l.Pairwise Apart

section
variable {w w' : World} {lo : Nat} {l m : List Dat}
theorem OwnB.nil : OwnB w lo [] := ⟨by simp, by simp, List.Pairwise.nil⟩
theorem OwnB.kept {row : Option Nat} (h : OwnB w lo l) (hg : w.grownBy w' row) (hne : ∀ d ∈ l, d.v.ownBlock = none ∨ d.v.ownBlock ≠ row) : OwnB w' lo l :=
  ⟨fun d hd => (h.own d hd).kept hg (hne d hd), h.small, h.apart⟩
theorem OwnB.below (h : OwnB w lo l) (hb : Below w.heap.size w w') : OwnB w' lo l :=
  h.kept (grownBy_of_below hb none) (fun d _ => by cases d.v.ownBlock <;> simp)
theorem OwnB.lt (h : OwnB w lo l) {d : Dat} (hd : d ∈ l) : ∀ k, d.v.ownBlock = some k → lo ≤ k ∧ k < w.heap.size := (h.own d hd).lt
/-- Where the blocks from lo on are as they were. -/
theorem OwnB.keep (h : OwnB w lo l) (hk : ∀ k, lo ≤ k → k < w.heap.size → w'.heap[k]? = w.heap[k]?) : OwnB w' lo l := by
  refine ⟨fun d hd => ?_, h.small, h.apart⟩
  obtain ⟨h1, h2⟩ := h.own d hd
  refine ⟨h1, ?_⟩
  rcases h2 with h2 | ⟨g, cap, cur, e, hb, hg, r⟩
  · exact .inl h2
  · exact .inr ⟨g, cap, cur, e, hb, (hk g hb (lt_of_block hg)).trans hg, r⟩
theorem OwnB.ok (h : OwnB w lo l) : ∀ d ∈ l, d.Ok w := fun d hd => by
  have ho := h.own d hd
  exact ⟨Rd.of_own ho (h.small d hd), own_cap ho⟩
theorem OwnB.far (h : OwnB w lo l) {g : Nat} {cur : Array Value} {t : TypeId} {fr : Nat × Nat} (hg : w.heap[g]? = some (.cells cur t fr)) (ht : t ≠ 5) : ∀ d ∈ l, d.v.ownBlock = none ∨ d.v.ownBlock ≠ some g := fun d hd => by
  rcases (h.own d hd).2 with ⟨e, _⟩ | ⟨g', cap, cur', e, _, hg', _⟩
  · exact .inl (by rw [e]; rfl)
  · refine .inr (fun e2 => ?_)
    rw [e] at e2
    have e3 : g' = g := by simpa [Value.ownBlock] using e2
    subst e3
    rw [hg] at hg'
    injection hg' with hg'
    injection hg' with _ h2
    exact ht h2
theorem OwnB.append (h : OwnB w lo l) (k : OwnB w lo m) (hx : ∀ a ∈ l, ∀ b ∈ m, Apart a b) : OwnB w lo (l ++ m) :=
  ⟨fun d hd => by rcases List.mem_append.1 hd with hd | hd; exact h.own d hd; exact k.own d hd,
   fun d hd => by rcases List.mem_append.1 hd with hd | hd; exact h.small d hd; exact k.small d hd,
   List.pairwise_append.2 ⟨h.apart, k.apart, hx⟩⟩
theorem OwnB.one {d : Dat} (h : w.ownsRow lo 5 1 d.v d.n (vb d.xs)) (hs : ∀ x ∈ d.xs, x < 256) : OwnB w lo [d] :=
  ⟨fun e he => by simp at he; subst he; exact h, fun e he => by simp at he; subst he; exact hs, by simp⟩
theorem OwnB.mono {lo' : Nat} (h : OwnB w lo l) (hl : lo' ≤ lo) : OwnB w lo' l :=
  ⟨fun d hd => by
    obtain ⟨h1, h2⟩ := h.own d hd
    refine ⟨h1, ?_⟩
    rcases h2 with h2 | ⟨g, cap, cur, e, hb, r⟩
    · exact .inl h2
    · exact .inr ⟨g, cap, cur, e, by omega, r⟩, h.small, h.apart⟩
theorem OwnB.left (h : OwnB w lo (l ++ m)) : OwnB w lo l := ⟨fun d hd => h.own d (List.mem_append_left _ hd), fun d hd => h.small d (List.mem_append_left _ hd), (List.pairwise_append.1 h.apart).1⟩
end

section
variable {w w' : World} {lo c : Nat} {A : Option Addr} {es : List Ent} {os : List OpE}
end

section
variable {w w' : World} {lo c d : Nat} {A B : Option Addr} {es : List Ent} {os : List OpE}
end

end Go.Proofs.YtlhcobkncceodaaDoor
namespace Go.Proofs.YtlhcobkncceodaaDoor
open Go.RowKit

/-- The marks from k on. -/
def marksK (k n : Nat) : List Nat := (List.range n).map fun i => (k + i) % 256
theorem marksK_length (k n : Nat) : (marksK k n).length = n := by simp [marksK]
theorem marksK_small (k n : Nat) : ∀ x ∈ marksK k n, x < 256 := by
  intro x hx
  simp only [marksK, List.mem_map] at hx
  obtain ⟨i, _, rfl⟩ := hx
  omega
theorem marksK_get (k n i : Nat) (h : i < n) : (marksK k n)[i]? = some ((k + i) % 256) := by simp [marksK, h]
def markedK (k : Nat) (xs : List Nat) (i : Nat) : List Nat := marksK k i ++ xs.drop i
theorem markedK_zero (k : Nat) (xs : List Nat) : markedK k xs 0 = xs := by simp [markedK, marksK]
theorem markedK_full (k : Nat) (xs : List Nat) : markedK k xs xs.length = marksK k xs.length := by simp [markedK]
theorem markedK_step (k : Nat) (xs : List Nat) (i : Nat) (h : i < xs.length) : (vb (markedK k xs i)).set i (.int .u8 (((k + i) % 256 : Nat) : Int)) = vb (markedK k xs (i + 1)) := by
  have : (markedK k xs i).set i ((k + i) % 256) = markedK k xs (i + 1) := by
    unfold markedK
    rw [List.set_append_right _ _ (by simp [marksK_length]), marksK_length, Nat.sub_self, List.drop_eq_getElem_cons h, List.set_cons_zero]
    rw [marksK, marksK, List.range_succ, List.map_append, List.append_assoc]
    rfl
  rw [← this]
  simp [vb, List.map_set]

def MarkedK (w : World) (base k : Nat) (A : Option Addr) (n c : Nat) (e : Ending) (w' : World) : Prop :=
  e = .returned (.int .i64 ((k + n : Nat) : Int)) ∧ w'.ownsRow base 5 1 (.slice A n c) n (vb (marksK k n)) ∧ w.grownBy w' (Value.slice A n c).ownBlock

set_option maxHeartbeats 400000 in
theorem markB_any (A : Option Addr) (n c base k : Nat) (xs : List Nat) (w : World) (ho : w.ownsRow base 5 1 (.slice A n c) n (vb xs)) (hn : n ≤ 2097152) (hk : k ≤ 8388608) :
    Calls Tryd.prog 73 #[.slice A n c, .int .i64 (k : Int)] w (MarkedK w base k A n c) := by
  have hl : xs.length = n := by have := ho.1; rw [vb_length] at this; omega
  rcases Nat.eq_zero_or_pos n with h0 | h0
  · subst h0
    obtain rfl : xs = [] := List.eq_nil_of_length_eq_zero hl
    have HO := Lib.hid ho
    clear ho hl
    go_enter Tryd.func73, Tryd.ntmps73
    go_wp2
    refine wp_loop_rounds 1 ?_
    rw [rounds_succ]
    go_wp2
    go_ret
    exact ⟨rfl, HO.out, World.grownBy.refl _ _⟩
  · obtain ⟨g, cap, hv, hbase, hlt⟩ := ho.form h0
    obtain ⟨rfl, -, rfl⟩ : A = some ⟨g, 0, none⟩ ∧ n = n ∧ c = cap := by injection hv with e1 e2 e3; exact ⟨e1, e2, e3⟩
    clear hv
    have HL := Lib.hid hl
    have ho0 : w.ownsRow base 5 1 (.slice (some ⟨g, 0, none⟩) n c) n (vb (markedK k xs 0)) := by rw [markedK_zero]; exact ho
    clear hl ho
    go_enter Tryd.func73, Tryd.ntmps73
    go_wp2
    go_loopw [1, 5] (fun t i wr => ∃ j : Nat, j ≤ n ∧ i = .int .i64 j ∧ t = .int .i64 ((k + j : Nat) : Int) ∧ wr.ownsRow base 5 1 (.slice (some ⟨g, 0, none⟩) n c) n (vb (markedK k xs j)) ∧ w.grownBy wr (some g)) (fun _ i _ => n - (intOf i).toNat)
    case atStart => exact ⟨0, Nat.zero_le _, rfl, rfl, ho0, World.grownBy.refl _ _⟩
    case round =>
      obtain ⟨j, hj, rfl, rfl, hown, hgr⟩ := hrel
      by_cases hlt2 : j < n
      · have hl2 : j < (vb (markedK k xs j)).length := by rw [hown.1]; omega
        have hcell2 : wr.cell? ⟨g, j, none⟩ = some (vb (markedK k xs j))[j] := by rw [hown.cellAt j (by omega), List.getElem?_eq_getElem hl2]
        have hfr := hown.frozenAt j
        have hst := hown.stored j (.int .u8 (((k + j) % 256 : Nat) : Int))
        rw [markedK_step k xs j (by rw [HL.out]; exact hlt2)] at hst
        have hst1 := Lib.hid hst.1
        have hg2 := grownBy_trans hgr hst.2
        generalize (vb (markedK k xs j))[j] = old at hcell2
        clear hst hown hl2
        go_wp2
        go_roundw
        case rel => exact ⟨j + 1, by omega, by go_num, by go_num, hst1.out, hg2⟩
        case measure => simp [intOf]; omega
      · obtain rfl : j = n := by omega
        go_wp2
        go_ret
        have e := HL.out
        subst e
        rw [markedK_full] at hown
        exact ⟨rfl, hown, hgr⟩

set_option maxHeartbeats 400000 in
theorem heldB_any (A : Option Addr) (n c k : Nat) (w : World) (hr : Rd w A n (marksK k n)) (hn : n ≤ 2097152) (hk : k ≤ 8388608) :
    Calls Tryd.prog 74 #[.slice A n c, .int .i64 (k : Int)] w fun e w' => e = .returned (.int .i64 ((k + n : Nat) : Int)) ∧ w = w' := by
  go_enter Tryd.func74, Tryd.ntmps74
  go_wp2
  go_loop [1, 5] (fun t i => ∃ j : Nat, j ≤ n ∧ i = .int .i64 j ∧ t = .int .i64 ((k + j : Nat) : Int)) (fun _ i => n - (intOf i).toNat)
  case atStart => exact ⟨0, Nat.zero_le _, rfl, rfl⟩
  case round =>
    obtain ⟨j, hj, rfl, rfl⟩ := hrel
    by_cases hlt : j < n
    · obtain ⟨b, off, x, rfl, hbw, hx, hxs, hc⟩ := hr.at_ hlt
      obtain rfl : (k + j) % 256 = x := by have := (marksK_get k n j hlt).symm.trans hxs.out; injection this
      go_wp2
      go_round
      case rel => exact ⟨j + 1, by omega, by go_num, by go_num⟩
      case measure => simp [intOf]; omega
    · obtain rfl : j = n := by omega
      go_wp2
      go_ret
      exact ⟨rfl, rfl⟩

/-- Nothing old is written but in the blocks S. -/
structure Only (S : Nat → Prop) (w w' : World) : Prop where
  os : w'.os = w.os
  tape : w'.tape = w.tape
  output : w'.output = w.output
  size : w.heap.size ≤ w'.heap.size
  block : ∀ b, b < w.heap.size → ¬ S b → w'.heap[b]? = w.heap[b]?
theorem Only.refl (S : Nat → Prop) (w : World) : Only S w w := ⟨rfl, rfl, rfl, Nat.le_refl _, fun _ _ _ => rfl⟩
theorem Only.trans {S : Nat → Prop} {a b c : World} (h : Only S a b) (k : Only S b c) : Only S a c :=
  ⟨k.os.trans h.os, k.tape.trans h.tape, k.output.trans h.output, Nat.le_trans h.size k.size, fun i hi hn => (k.block i (Nat.lt_of_lt_of_le hi h.size) hn).trans (h.block i hi hn)⟩
theorem Only.grown {S : Nat → Prop} {a b c : World} {row : Option Nat} (h : Only S a b) (k : b.grownBy c row) (hr : ∀ i, row = some i → S i) : Only S a c :=
  h.trans ⟨k.os, k.tape, k.output, k.size, fun i hi hn => k.block i hi (fun e => hn (hr i e.symm))⟩
theorem Only.below {S : Nat → Prop} {a b c : World} (h : Only S a b) (k : Below b.heap.size b c) : Only S a c :=
  h.trans ⟨k.os, k.tape, k.output, k.size, fun i hi _ => k.block i hi⟩
theorem Only.mono {S T : Nat → Prop} {a b : World} (h : Only S a b) (hs : ∀ i, S i → T i) : Only T a b :=
  ⟨h.os, h.tape, h.output, h.size, fun i hi hn => h.block i hi (fun hh => hn (hs i hh))⟩
/-- Old memory up to B stays where only blocks from B on are written. -/
theorem Only.toBelow {S : Nat → Prop} {B : Nat} {w w' : World} (h : Only S w w') (hB : B ≤ w.heap.size) (hs : ∀ k, S k → B ≤ k) : Below B w w' :=
  ⟨h.os, h.tape, h.output, h.size, fun k hk => h.block k (by omega) (fun hh => by have := hs k hh; omega)⟩

end Go.Proofs.YtlhcobkncceodaaDoor
namespace Go.Proofs.YtlhcobkncceodaaDoor
open Go.RowKit

structure KE where
  f : Int
  t : Int
  w : Int
  i : Int
  v : Int
def KE.cells (e : KE) : List Value := [.int .i64 e.f, .int .i64 e.t, .int .i64 e.w, .int .i64 e.i, .int .i64 e.v]
theorem KE.cells_len (e : KE) : e.cells.length = 5 := rfl
/-- A slice of shard edges in memory. -/
structure SlK (w : World) (A : Option Addr) (n : Nat) (es : List KE) : Prop where
  len : es.length = n
  row : Row w 5 A n (es.flatMap KE.cells)
section
variable {w w' : World} {n c lo e : Nat} {A : Option Addr} {es : List KE}
theorem SlK.keep (h : SlK w A n es) (hs : w.heap.size ≤ w'.heap.size) (hk : ∀ i, i < w.heap.size → w'.heap[i]? = w.heap[i]?) : SlK w' A n es := ⟨h.len, h.row.keep hs hk⟩
theorem SlK.below (h : SlK w A n es) (hb : Below w.heap.size w w') : SlK w' A n es := h.keep hb.size hb.block
theorem SlK.nil : SlK w A 0 [] := ⟨rfl, Row.nil⟩
/-- The edge at place j, its five cells. -/
theorem SlK.at_ {j : Nat} (h : SlK w A n es) (hj : j < n) : ∃ (b off : Nat) (e : KE), A = some ⟨b, off, none⟩ ∧ b < w.heap.size ∧ Hid (es[j]? = some e) ∧
    w.cell? ⟨b, off + j * 5, none⟩ = some (.int .i64 e.f) ∧ w.cell? ⟨b, off + j * 5 + 1, none⟩ = some (.int .i64 e.t) ∧ w.cell? ⟨b, off + j * 5 + 2, none⟩ = some (.int .i64 e.w) ∧
    w.cell? ⟨b, off + j * 5 + 3, none⟩ = some (.int .i64 e.i) ∧ w.cell? ⟨b, off + j * 5 + 4, none⟩ = some (.int .i64 e.v) := by
  obtain ⟨b, off, rfl, hb, hc⟩ := h.row.lies (by omega)
  have hl : j < es.length := by have := h.len; omega
  have he : es[j]? = some es[j] := List.getElem?_eq_getElem hl
  refine ⟨b, off, es[j], rfl, hb, he, ?_, ?_, ?_, ?_, ?_⟩
  · exact hc (j * 5) _ (flat_get KE.cells 5 KE.cells_len es j 0 _ he (by omega))
  · exact hc (j * 5 + 1) _ (flat_get KE.cells 5 KE.cells_len es j 1 _ he (by omega))
  · exact hc (j * 5 + 2) _ (flat_get KE.cells 5 KE.cells_len es j 2 _ he (by omega))
  · exact hc (j * 5 + 3) _ (flat_get KE.cells 5 KE.cells_len es j 3 _ he (by omega))
  · exact hc (j * 5 + 4) _ (flat_get KE.cells 5 KE.cells_len es j 4 _ he (by omega))
theorem SlK.of_own (h : w.ownsRow lo e 5 (.slice A n c) n (es.flatMap KE.cells)) (hl : es.length = n) : SlK w A n es := ⟨hl, Row.of_own h⟩
end
/-! ### marks -/
end Go.Proofs.YtlhcobkncceodaaDoor
namespace Go.Proofs.YtlhcobkncceodaaDoor
open Go.RowKit

/-- A block that holds a shard. -/
structure HBox (w : World) (b : Nat) (lo hi : Int) (A : Option Addr) (n c : Nat) : Prop where
  lt : b < w.heap.size
  c0 : w.cell? ⟨b, 0, none⟩ = some (.int .i64 lo)
  c1 : w.cell? ⟨b, 1, none⟩ = some (.int .i64 hi)
  c2 : w.cell? ⟨b, 2, none⟩ = some (.slice A n c)
section
variable {w w' : World} {b n c : Nat} {lo hi : Int} {A : Option Addr}
theorem HBox.keep (h : HBox w b lo hi A n c) (hs : w.heap.size ≤ w'.heap.size) (hk : w'.heap[b]? = w.heap[b]?) : HBox w' b lo hi A n c :=
  ⟨Nat.lt_of_lt_of_le h.lt hs, (World.cell?_of_block (a := ⟨b, 0, none⟩) hk).trans h.c0, (World.cell?_of_block (a := ⟨b, 1, none⟩) hk).trans h.c1, (World.cell?_of_block (a := ⟨b, 2, none⟩) hk).trans h.c2⟩
theorem HBox.below (h : HBox w b lo hi A n c) (hb : Below w.heap.size w w') : HBox w' b lo hi A n c := h.keep hb.size (hb.block b h.lt)
theorem HBox.new (w : World) (lo hi : Int) (A : Option Addr) (n c : Nat) (t : TypeId) : HBox (w.alloc (.cells #[.int .i64 lo, .int .i64 hi, .slice A n c] t)) w.heap.size lo hi A n c := ⟨by simp, by simp, by simp, by simp⟩
theorem HBox.alloc (h : HBox w b lo hi A n c) (o : Obj) : HBox (w.alloc o) b lo hi A n c := h.below (below_a1 w o)
theorem HBox.drew (h : HBox w b lo hi A n c) : HBox w.drew b lo hi A n c := ⟨h.lt, h.c0, h.c1, h.c2⟩
end
end Go.Proofs.YtlhcobkncceodaaDoor
namespace Go.Proofs.YtlhcobkncceodaaDoor
open Go.RowKit

end Go.Proofs.YtlhcobkncceodaaDoor
namespace Go.Proofs.YtlhcobkncceodaaDoor
open Go.RowKit

/-- The marks. -/
def marks (n : Nat) : List Nat := (List.range n).map fun i => (i + 1) % 256
end Go.Proofs.YtlhcobkncceodaaDoor
