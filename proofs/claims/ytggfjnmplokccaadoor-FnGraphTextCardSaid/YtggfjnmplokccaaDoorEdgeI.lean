/- The contract of the program's function that reads one line of a graph's text. Condition: at most 2^20 bytes; the library's word length is an int in memory, its table of powers of ten and its two errors hold what their text lays. -/
import Derived.Test.YtggfjnmplokccaaDoorLinesI
namespace Go.Proofs.YtggfjnmplokccaaDoor
open Go.RowKit

/-- A block of three numbers that may be written. -/
structure Arr3 (w : World) (b : Nat) (f : Nat → Int) : Prop where
  lt : b < w.heap.size
  c : ∀ j, j < 3 → w.cell? ⟨b, j, none⟩ = some (.int .i64 (f j))
  fz : ∀ i, w.frozen? ⟨b, i, none⟩ = false
section
variable {w w' : World} {b : Nat} {f : Nat → Int}
theorem Arr3.keep (h : Arr3 w b f) (hs : w.heap.size ≤ w'.heap.size) (hk : w'.heap[b]? = w.heap[b]?) : Arr3 w' b f :=
  ⟨Nat.lt_of_lt_of_le h.lt hs, fun j hj => (World.cell?_of_block (a := ⟨b, j, none⟩) hk).trans (h.c j hj), fun i => (World.frozen?_of_block (a := ⟨b, i, none⟩) hk).trans (h.fz i)⟩
theorem Arr3.below (h : Arr3 w b f) (hb : Below w.heap.size w w') : Arr3 w' b f := h.keep hb.size (hb.block b h.lt)
theorem Arr3.new (w : World) (x y z : Int) (t : TypeId) : Arr3 (w.alloc (.cells #[.int .i64 x, .int .i64 y, .int .i64 z] t)) w.heap.size (fun j => if j = 0 then x else if j = 1 then y else z) :=
  ⟨by simp, fun j hj => by
    match j, hj with
    | 0, _ => simp
    | 1, _ => simp
    | 2, _ => simp, fun i => by simp⟩
theorem Arr3.set (h : Arr3 w b f) {k : Nat} (hk : k < 3) (v : Int) : Arr3 (w.setCell ⟨b, k, none⟩ (.int .i64 v)) b (fun j => if j = k then v else f j) :=
  ⟨by simpa using h.lt, fun j hj => by
    by_cases e : j = k
    · subst e
      rw [World.cell?_setCell_same' _ _ _ (by rw [h.c j hj]; rfl), if_pos rfl]
    · rw [World.cell?_setCell_other _ _ _ _ (by simp <;> omega), h.c j hj, if_neg e], fun i => by simpa using h.fz i⟩
theorem Arr3.alloc (h : Arr3 w b f) (o : Obj) : Arr3 (w.alloc o) b f := h.below (below_a1 w o)
end
def edgeV : Option GE → Value
  | some e => .tuple #[.agg #[.int .i64 e.f, .int .i64 e.t, .int .i64 e.w], .nilIface]
  | none => .tuple #[.agg #[.int .i64 0, .int .i64 0, .int .i64 0], errV 1]
def EdgeP (w : World) (o : Option GE) (e : Ending) (w' : World) : Prop := e = .returned (edgeV o) ∧ Below w.heap.size w w'
theorem below_three {w W : World} (hb : Below w.heap.size w W) (x y z : Value) : Below w.heap.size w (((W.setCell ⟨w.heap.size, 0, none⟩ x).setCell ⟨w.heap.size, 1, none⟩ y).setCell ⟨w.heap.size, 2, none⟩ z) :=
  ((hb.setCell (p := ⟨w.heap.size, 0, none⟩) (Nat.le_refl _) _).setCell (p := ⟨w.heap.size, 1, none⟩) (Nat.le_refl _) _).setCell (p := ⟨w.heap.size, 2, none⟩) (Nat.le_refl _) _

set_option maxRecDepth 10000 in
set_option maxHeartbeats 4000000 in
theorem implEdge (s : ByteArray) (N : Int) (w : World) (hs : s.size ≤ 1048576) (hm : MaxLen w) (ht : Pow10 w) (he : Errs w) :
    Calls Tryd.prog 35 #[.string s, .int .i64 N] w (EdgeP w (edgeL N s)) := by
  have CP := Lib.hid (fun W h => implParts s W hs h)
  have CT := Lib.hid (fun p W (h : p ∈ parts s) h1 h2 => implTextNum p W (Nat.le_trans (parts_size s p h) hs) h1 h2)
  have CE := Lib.hid (fun e W => implEdgeOk e N W)
  have HE0 := Lib.hid (fun h => edgeL_parts (N := N) (s := s) h)
  have HE1 := Lib.hid (fun p h1 h2 => edgeL_bad (N := N) (s := s) (p := p) h1 h2)
  have HE2 : Hid (∀ a b c, (∀ p ∈ parts s, numB p = true) → (parts s).map valB = [a, b, c] → edgeL N s = if edgeB N ⟨a, b, c⟩ then some ⟨a, b, c⟩ else none) := Lib.hid (fun a b c h1 h2 => edgeL_edge (by rw [nums_yes h1, h2]))
  have hpl := parts_length s
  generalize edgeL N s = R at HE0 HE1 HE2
  unfold PartsRes at CP
  generalize parts s = ps at CP CT HE0 HE1 HE2 hpl
  obtain ⟨n, hn⟩ : ∃ n, n = ps.length := ⟨_, rfl⟩
  rw [← hn] at CP hpl
  have HN := Lib.hid hn
  have HM := Lib.hid hm
  have HT := Lib.hid ht
  have HE := Lib.hid he
  clear hn hm ht he
  go_enter Tryd.func35, Tryd.ntmps35
  have D0 := Lib.hid (Arr3.new w 0 0 0 36)
  have HB0 := Lib.hid (below_a1 w (.cells #[.int .i64 0, .int .i64 0, .int .i64 0] 36))
  go_wp2_with fail
  refine (CP.out _ (HM.out.below HB0.out)).mono ?_
  rintro e w1 ⟨P, c, rfl, hop, hb1⟩
  have D1 := Lib.hid (D0.out.below hb1)
  have HB1 := Lib.hid (g_chain HB0.out hb1)
  have HP := Lib.hid (RdS.of_own hop)
  clear D0 HB0 hop hb1
  by_cases h3 : n = 3
  · subst h3
    have A1 := Lib.hid (Arr3.new w1 0 0 0 89)
    have D2 := Lib.hid (D1.out.alloc (.cells #[.int .i64 0, .int .i64 0, .int .i64 0] 89))
    have HB2 := Lib.hid (g_chain HB1.out (below_a1 w1 (.cells #[.int .i64 0, .int .i64 0, .int .i64 0] 89)))
    have HP2 := Lib.hid (HP.out.below (below_a1 w1 (.cells #[.int .i64 0, .int .i64 0, .int .i64 0] 89)))
    have hw1 : w.heap.size < w1.heap.size := D1.out.lt
    have HPL := Lib.hid (HP.out.lt (by omega))
    clear D1 HB1 HP
    go_wp2
    generalize w1.alloc (.cells #[.int .i64 0, .int .i64 0, .int .i64 0] 89) = W0 at A1 D2 HB2 HP2 ⊢
    go_loopw [23] (fun i wr => ∃ (k : Nat) (f : Nat → Int), k ≤ 3 ∧ i = .int .i64 k ∧ Hid (Arr3 wr w1.heap.size f) ∧ Hid (∀ j p, j < k → ps[j]? = some p → f j = valB p) ∧ Hid (∀ p ∈ ps.take k, numB p = true) ∧ Hid (W0.grownBy wr (some w1.heap.size))) (fun i _ => 3 - (intOf i).toNat)
    case atStart => exact ⟨0, _, by omega, rfl, A1, Lib.hid (fun j p hj => by omega), Lib.hid (by simp), Lib.hid (World.grownBy.refl _ _)⟩
    case round =>
      clear A1
      obtain ⟨k, f, hk, rfl, harr, hval, hall, hgr⟩ := hrel
      have hbel : Hid (Below w.heap.size w wr) := Lib.hid (HB2.out.grown hgr.out HB2.out.size (fun q hq => by injection hq with hq; omega))
      have hdb := Lib.hid (D2.out.keep hgr.out.size (hgr.out.block _ D2.out.lt (by intro hh; injection hh with hh; omega)))
      by_cases hlt : k < 3
      · have hrd : RdS wr P 3 ps := HP2.out.other hgr.out (fun b off sp h1 h2 => by
          have := HPL.out b off sp h1
          injection h2 with h2
          omega)
        obtain ⟨b, off, p, rfl, hbw, hp, c0⟩ := hrd.at_ hlt
        have hmem : p ∈ ps := List.mem_of_getElem? hp.out
        have CQ := Lib.hid (fun W h1 h2 => CT.out p W hmem h1 h2)
        clear hrd
        cases hv : numB p with
        | false =>
          have HV := Lib.hid (HE1.out p hmem hv)
          rw [tnVal_no _ (show tn p.data.toList = false from hv)] at CQ
          clear hv hmem
          go_wp2_with fail
          refine (CQ.out _ (HT.out.below hbel.out) (HE.out.below hbel.out)).mono ?_
          rintro e w2 ⟨rfl, hb2⟩
          obtain ⟨l0, x0, xf⟩ := (hdb.out.below hb2)
          have y0 := x0 0 (by omega)
          have y1 := x0 1 (by omega)
          have y2 := x0 2 (by omega)
          have z0 := xf 0
          have z1 := xf 1
          have z2 := xf 2
          have HBX := Lib.hid (g_chain hbel.out hb2)
          clear x0 xf hb2 c0
          go_wp2
          refine bodyPost_ret (v := .tuple #[.agg #[.int .i64 0, .int .i64 0, .int .i64 0], errV 1]) (by simp [results, Tryd.results35, go_sem, y0, y1, y2, errV]) rfl ?_
          rw [HV.out]
          exact ⟨rfl, below_three HBX.out _ _ _⟩
        | true =>
          rw [tnVal_yes _ (show tn p.data.toList = true from hv), show (val10 p.data.toList : Int) = valB p from rfl] at CQ
          have HALL2 : Hid (∀ p ∈ ps.take (k + 1), numB p = true) := Lib.hid (by
            intro q hq
            rw [g_take ps k p hp.out] at hq
            rcases List.mem_append.1 hq with hq | hq
            · exact hall.out q hq
            · rw [List.mem_singleton.1 hq]; exact hv)
          have HX : Hid (∀ q, ps[k]? = some q → valB p = valB q) := Lib.hid (fun q hq => by rw [hp.out] at hq; injection hq with hq; rw [hq])
          generalize valB p = x at CQ HX
          clear hv hmem
          go_wp2_with fail
          refine (CQ.out _ (HT.out.below hbel.out) (HE.out.below hbel.out)).mono ?_
          rintro e w2 ⟨rfl, hb2⟩
          have HA2 := Lib.hid (harr.out.below hb2)
          have HG2 := Lib.hid (grown_below hgr.out hb2)
          have ac := HA2.out.c k hlt
          have af := HA2.out.fz k
          clear harr hgr hb2 hbel hdb c0
          go_wp2
          go_roundw
          case rel =>
            refine ⟨k + 1, _, by omega, by go_num, Lib.hid (HA2.out.set hlt x), Lib.hid (fun j q hj hq => ?_), HALL2, Lib.hid (grown_set HG2.out _)⟩
            by_cases e : j = k
            · subst e
              rw [if_pos rfl]
              exact HX.out q hq
            · rw [if_neg e]
              exact hval.out j q (by omega) hq
          case measure => simp [intOf]; omega
      · obtain rfl : k = 3 := by omega
        have htk : ps.take 3 = ps := List.take_of_length_le (by rw [← HN.out]; exact Nat.le_refl _)
        obtain ⟨p0, p1, p2, rfl⟩ : ∃ p0 p1 p2, ps = [p0, p1, p2] := by
          match ps, HN.out with
          | [p0, p1, p2], _ => exact ⟨p0, p1, p2, rfl⟩
        have e0 := hval.out 0 p0 (by omega) rfl
        have e1 := hval.out 1 p1 (by omega) rfl
        have e2 := hval.out 2 p2 (by omega) rfl
        have a0 := harr.out.c 0 (by omega)
        have a1 := harr.out.c 1 (by omega)
        have a2 := harr.out.c 2 (by omega)
        rw [e0] at a0
        rw [e1] at a1
        rw [e2] at a2
        have HEE := Lib.hid (HE2.out (valB p0) (valB p1) (valB p2) (by rw [htk] at hall; exact hall.out) rfl)
        generalize valB p0 = u0 at a0 HEE
        generalize valB p1 = u1 at a1 HEE
        generalize valB p2 = u2 at a2 HEE
        have hne : wr.heap.size ≠ w.heap.size := by have := hdb.out.lt; omega
        have hbelA := Lib.hid (g_chain hbel.out (below_a1 wr (.cells #[.int .i64 u0, .int .i64 u1, .int .i64 u2] 36)))
        have hdbA := Lib.hid (hdb.out.alloc (.cells #[.int .i64 u0, .int .i64 u1, .int .i64 u2] 36))
        have HEA := Lib.hid (Arr3.new wr u0 u1 u2 36)
        clear e0 e1 e2 hval hall hgr harr HE0 HE1 HE2 CT CP
        go_wp2_with fail
        refine (CE.out ⟨u0, u1, u2⟩ _).mono ?_
        rintro e w3 ⟨rfl, hb3⟩
        have hbel3 := Lib.hid (g_chain hbelA.out hb3)
        obtain ⟨l0, x0, xf⟩ := (hdbA.out.below hb3)
        have y0 := x0 0 (by omega)
        have y1 := x0 1 (by omega)
        have y2 := x0 2 (by omega)
        have z0 := xf 0
        have z1 := xf 1
        have z2 := xf 2
        obtain ⟨l1, vc, vf⟩ := (HEA.out.below hb3)
        have v0 : w3.cell? ⟨wr.heap.size, 0, none⟩ = some (.int .i64 u0) := vc 0 (by omega)
        have v1 : w3.cell? ⟨wr.heap.size, 1, none⟩ = some (.int .i64 u1) := vc 1 (by omega)
        have v2 : w3.cell? ⟨wr.heap.size, 2, none⟩ = some (.int .i64 u2) := vc 2 (by omega)
        clear x0 xf vf vc hb3 a0 a1 a2
        cases hv : edgeB N ⟨u0, u1, u2⟩ with
        | true =>
          have HV : Hid (R = some ⟨u0, u1, u2⟩) := Lib.hid (by rw [HEE.out, if_pos hv])
          go_wp2
          refine bodyPost_ret (v := .tuple #[.agg #[.int .i64 u0, .int .i64 u1, .int .i64 u2], .nilIface]) (by simp [results, Tryd.results35, go_sem, y0, y1, y2]) rfl ?_
          rw [HV.out]
          exact ⟨rfl, below_three hbel3.out _ _ _⟩
        | false =>
          have HV : Hid (R = none) := Lib.hid (by rw [HEE.out, if_neg (by rw [hv]; simp)])
          go_wp2
          refine bodyPost_ret (v := .tuple #[.agg #[.int .i64 0, .int .i64 0, .int .i64 0], errV 1]) (by simp [results, Tryd.results35, go_sem, y0, y1, y2, errV]) rfl ?_
          rw [HV.out]
          exact ⟨rfl, below_three hbel3.out _ _ _⟩
  · have HV := Lib.hid (HE0.out (by rw [← HN.out]; exact h3))
    have hne : ((n : Int) == 3) = false := by simp; omega
    obtain ⟨l0, x0, xf⟩ := D1.out
    have y0 := x0 0 (by omega)
    have y1 := x0 1 (by omega)
    have y2 := x0 2 (by omega)
    have z0 := xf 0
    have z1 := xf 1
    have z2 := xf 2
    clear x0 xf
    go_wp2
    refine bodyPost_ret (v := .tuple #[.agg #[.int .i64 0, .int .i64 0, .int .i64 0], errV 1]) (by simp [results, Tryd.results35, go_sem, y0, y1, y2, errV]) rfl ?_
    rw [HV.out]
    exact ⟨rfl, below_three HB1.out _ _ _⟩
end Go.Proofs.YtggfjnmplokccaaDoor
