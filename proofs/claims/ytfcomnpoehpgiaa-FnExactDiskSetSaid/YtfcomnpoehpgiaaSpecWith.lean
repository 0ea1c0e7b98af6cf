/- The contract of the model's function that puts a file into a list of files. Condition: at most 2^19 files. -/
import Derived.Test.YtfcomnpoehpgiaaSpecList
import Derived.Test.YtfcomnpoehpgiaaMarkDisk
namespace Go.Proofs.Ytfcomnpoehpgiaa
open Go.RowKit

theorem sl_of_own {w : World} {lo c : Nat} {A : Option Addr} {es : List Ent} (h : w.ownsRow lo 93 2 (.slice A es.length c) es.length (es.flatMap Ent.cells)) (he : ∀ e ∈ es, e.d.Ok w) : SlF w A es.length es := ⟨rfl, Row.of_own h, he⟩

theorem box2_0 (w : World) (a b : Value) (t : TypeId) (o : Obj) : ((w.alloc (.cells #[a, b] t)).alloc o).cell? ⟨w.heap.size, 0, none⟩ = some a := by
  rw [World.cell?_alloc_lt _ _ _ (by simp)]
  simp
theorem box2_1 (w : World) (a b : Value) (t : TypeId) (o : Obj) : ((w.alloc (.cells #[a, b] t)).alloc o).cell? ⟨w.heap.size, 1, none⟩ = some b := by
  rw [World.cell?_alloc_lt _ _ _ (by simp)]
  simp

/-- The list that is being made: it lies in block g or in blocks that are new since w1. -/
structure OutOk (g : Nat) (w1 wr : World) (v : Value) (out : List Ent) : Prop where
  own : wr.ownsRow g 93 2 v out.length (out.flatMap Ent.cells)
  blk : ∀ j, v.ownBlock = some j → j = g ∨ w1.heap.size ≤ j
  only : Only (fun j => j = g ∨ w1.heap.size ≤ j) w1 wr
theorem OutOk.app {g : Nat} {w1 wr W w2 : World} {v v2 : Value} {out : List Ent} {e : Ent} (h : OutOk g w1 wr v out) (hb : Below wr.heap.size wr W) (h2 : w2.ownsRow g 93 2 v2 (out.length + 1) (out.flatMap Ent.cells ++ e.cells)) (hg : W.grownBy w2 v.ownBlock)
    (hat : v2.ownBlock = v.ownBlock ∨ v2.ownBlock = some W.heap.size) : OutOk g w1 w2 v2 (out ++ [e]) := by
  refine ⟨by rw [flat_snoc, List.length_append]; exact h2, fun j hj => ?_, (h.only.below hb).grown hg h.blk⟩
  rcases hat with e1 | e1
  · exact h.blk j (e1 ▸ hj)
  · rw [e1] at hj
    injection hj with hj
    have := h.only.size
    have := hb.size
    exact .inr (by omega)
theorem OutOk.below {g : Nat} {w1 wr W : World} {v : Value} {out : List Ent} (h : OutOk g w1 wr v out) (hb : Below wr.heap.size wr W) : OutOk g w1 W v out := ⟨own_below h.own hb, h.blk, h.only.below hb⟩

/-- How far an insertion is. -/
def Laid (x : Ent) (ls out : List Ent) (k : Nat) (b : Bool) : Prop := insK Ent.nm x ls = out ++ (if b then ls.drop k else insK Ent.nm x (ls.drop k))
theorem Laid.start (x : Ent) (ls : List Ent) : Laid x ls [] 0 false := by simp [Laid]
theorem drop_at {α : Type} {ls : List α} {k : Nat} {e : α} (h : ls[k]? = some e) : ls.drop k = e :: ls.drop (k + 1) := by
  obtain ⟨hk, rfl⟩ := List.getElem?_eq_some_iff.1 h
  exact List.drop_eq_getElem_cons hk
theorem Laid.go {x e : Ent} {ls out : List Ent} {k : Nat} (h : Laid x ls out k true) (he : ls[k]? = some e) : Laid x ls (out ++ [e]) (k + 1) true := by
  unfold Laid at *
  rw [h, drop_at he]
  simp
theorem Laid.skip {x e : Ent} {ls out : List Ent} {k : Nat} (h : Laid x ls out k false) (he : ls[k]? = some e) (hg : gtN e.nm x.nm = false) : Laid x ls (out ++ [e]) (k + 1) false := by
  unfold Laid at *
  rw [h, drop_at he, insK, hg]
  simp
theorem Laid.put {x e : Ent} {ls out : List Ent} {k : Nat} (h : Laid x ls out k false) (he : ls[k]? = some e) (hg : gtN e.nm x.nm = true) : Laid x ls (out ++ [x] ++ [e]) (k + 1) true := by
  unfold Laid at *
  rw [h, drop_at he, insK, hg]
  simp
theorem Laid.end_yes {x : Ent} {ls out : List Ent} {k : Nat} (h : Laid x ls out k true) (hk : ls.length ≤ k) : insK Ent.nm x ls = out := by
  unfold Laid at h
  rw [h, List.drop_eq_nil_of_le hk]
  simp
theorem Laid.end_no {x : Ent} {ls out : List Ent} {k : Nat} (h : Laid x ls out k false) (hk : ls.length ≤ k) : insK Ent.nm x ls = out ++ [x] := by
  unfold Laid at h
  rw [h, List.drop_eq_nil_of_le hk]
  simp [insK]

set_option maxRecDepth 10000 in
set_option maxHeartbeats 2000000 in
theorem specWith (A : Option Addr) (n c : Nat) (es : List Ent) (x : Ent) (w : World) (hr : SlF w A n es) (hn : n ≤ 524288) :
    Calls Try.prog 99 #[.slice A n c, .agg #[.string x.nm, .slice x.d.A x.d.n x.d.c]] w (GivesF w (withK Ent.nm x es)) := by
  obtain ⟨i0, hi, hz0, hz1, hz2⟩ := info_parts Try.infoFile
  have HE := Lib.hid (fun e (he : e ∈ lessK Ent.nm x.nm es) => hr.each e (lessK_mem he).1)
  have C := Lib.hid (fun W (h : Below w.heap.size w W) => specLess A n c es x.nm W (hr.below h) (by omega))
  have hlen : (lessK Ent.nm x.nm es).length ≤ n := by rw [← hr.len]; exact lessK_len _ _
  have hwk : withK Ent.nm x es = insK Ent.nm x (lessK Ent.nm x.nm es) := rfl
  rw [hwk]
  generalize lessK Ent.nm x.nm es = ls at C HE hlen ⊢
  clear hr hwk
  go_enter Try.func99, Try.ntmps99
  go_wp2_with fail
  refine (C.out _ (below_a2 _ _ _)).mono ?_
  rintro e w1 ⟨A1, c1, rfl, ho1, hb1⟩
  have HB1 := Lib.hid ((below_a2 w _ _).trans (hb1.mono (by simp; omega)))
  have hx0 : w1.cell? ⟨w.heap.size, 0, none⟩ = some (.string x.nm) := (hb1.cell (p := ⟨w.heap.size, 0, none⟩) (by simp; omega)).trans (box2_0 _ _ _ _ _)
  have hx1 : w1.cell? ⟨w.heap.size, 1, none⟩ = some (.slice x.d.A x.d.n x.d.c) := (hb1.cell (p := ⟨w.heap.size, 1, none⟩) (by simp; omega)).trans (box2_1 _ _ _ _ _)
  have hw1 : w.heap.size + 1 < w1.heap.size := by have := hb1.size; simp at this; omega
  have ho0 : w1.ownsRow (w.heap.size + 1) 93 2 (.slice (some ⟨w.heap.size + 1, 0, none⟩) 0 0) 0 [] := by
    have := own_below (builtF_none (w.alloc (.cells #[.string x.nm, .slice x.d.A x.d.n x.d.c] 93))) hb1
    simpa using this
  have HO1 := Lib.hid ho1
  simp only [World.size_alloc] at HO1
  clear ho1 hb1
  go_wp2
  go_loopw [5, 6, 15] (fun v t i wr => ∃ (k : Nat) (b : Bool) (out : List Ent), k ≤ ls.length ∧ i = .int .i64 k ∧ t = .bool b ∧ Hid (Laid x ls out k b) ∧ out.length ≤ 2 * k ∧ OutOk (w.heap.size + 1) w1 wr v out) (fun _ _ i _ => ls.length - (intOf i).toNat)
  case atStart => exact ⟨0, false, [], Nat.zero_le _, rfl, rfl, Lib.hid (Laid.start x ls), Nat.zero_le _, ⟨ho0, fun j hj => .inl (by simpa [Value.ownBlock] using hj.symm), Only.refl _ _⟩⟩
  case round =>
    obtain ⟨k, b, out, hk, rfl, rfl, hlaid, hol, hout⟩ := hrel
    have hws : w1.heap.size ≤ wr.heap.size := hout.only.size
    have hbW : Below w.heap.size w wr := HB1.out.trans (hout.only.toBelow (by omega) (fun j hj => by omega))
    have x0 := (World.cell?_of_block (a := ⟨w.heap.size, 0, none⟩) (hout.only.block w.heap.size (by omega) (by omega))).trans hx0
    have x1 := (World.cell?_of_block (a := ⟨w.heap.size, 1, none⟩) (hout.only.block w.heap.size (by omega) (by omega))).trans hx1
    have hwx : w.heap.size < wr.heap.size := by omega
    have HO := Lib.hid hout
    by_cases hlt : k < ls.length
    · have hsl : SlF wr A1 ls.length ls := sl_of_own (own_only HO1.out hout.only (fun j hj hj2 => by have := HO1.out.lt j hj; omega)) (fun e he => (HE.out e he).below hbW)
      obtain ⟨b1, off, e, rfl, hbw, he, hok, c0, c1⟩ := hsl.at_ hlt
      clear hout hsl hbW hok hx0 hx1
      cases b with
      | true =>
        go_wp2_with (at_builtin; refine wpList_append_any _ rfl (.tmp 32) (.tmp 34) _ rfl (w.heap.size + 1) 93 i0 _ 2 40 Try.underlying23 hi hz0 hz1 hz2 rfl (by omega) _ out.length (out.flatMap Ent.cells) rfl ((HO.out.own.alloc _).alloc _) ((wr.heap.size + 1) + 1) (some ⟨wr.heap.size + 1, 0, none⟩) 1 1 e.cells rfl (two_reads _ _ _ _ _ (by simp)) e.cells_one (by simp only [maxLen];  omega) (by  omega) (by simp; omega) ?_; intro v2 w2 hown2 hg2 hat2)
        have HO2 := Lib.hid (HO.out.app (e := e) (below_a2 wr _ _) hown2 hg2 hat2)
        clear hown2 hg2 hat2
        go_roundw
        case rel => exact ⟨k + 1, true, out ++ [e], by omega, by go_num, rfl, Lib.hid (hlaid.out.go he.out), by simp; omega, HO2.out⟩
        case measure => simp [intOf]; omega
      | false =>
        by_cases hgt : gtN e.nm x.nm = true
        · have hq : (Op.bytesLess e.nm.toList x.nm.toList || e.nm.toList == x.nm.toList) = false := by unfold gtN at hgt; simpa only [Bool.not_eq_true'] using hgt
          have HG := Lib.hid hgt
          clear hgt
          go_wp2_with (first
            | (at_builtin; refine wpList_append_any _ rfl (.tmp 28) (.tmp 30) _ rfl (w.heap.size + 1) 93 i0 _ 2 40 Try.underlying23 hi hz0 hz1 hz2 rfl (by omega) _ out.length (out.flatMap Ent.cells) rfl ((HO.out.own.alloc _).alloc _) ((wr.heap.size + 1) + 1) (some ⟨wr.heap.size + 1, 0, none⟩) 1 1 x.cells rfl (two_reads _ _ _ _ _ (by simp)) x.cells_one (by simp only [maxLen];  omega) (by  omega) (by simp <;> omega) ?_; intro v2 w2 hown2 hg2 hat2; have HO2 := Lib.hid (HO.out.app (e := x) (below_a2 wr _ _) hown2 hg2 hat2); have f0 := (World.cell?_of_block (a := ⟨wr.heap.size, 0, none⟩) (hg2.block wr.heap.size (by simp <;> omega) (fun hh => by have := (HO.out.own.lt _ hh.symm).2; omega))).trans (box2_0 _ _ _ _ _); have f1 := (World.cell?_of_block (a := ⟨wr.heap.size, 1, none⟩) (hg2.block wr.heap.size (by simp <;> omega) (fun hh => by have := (HO.out.own.lt _ hh.symm).2; omega))).trans (box2_1 _ _ _ _ _); have hw2 : wr.heap.size + 1 + 1 ≤ w2.heap.size := (by have := hg2.size; simp at this <;> omega); have hol2 : (out ++ [x]).length ≤ 2 * k + 1 := (by simp <;> omega); clear hown2 hg2 hat2)
            | (at_builtin; refine wpList_append_any _ rfl (.tmp 32) (.tmp 34) _ rfl (w.heap.size + 1) 93 i0 _ 2 40 Try.underlying23 hi hz0 hz1 hz2 rfl (by omega) _ (out ++ [x]).length ((out ++ [x]).flatMap Ent.cells) rfl (HO2.out.own.alloc _) (w2.heap.size + 1) (some ⟨w2.heap.size, 0, none⟩) 1 1 e.cells rfl (two_reads _ _ _ _ _ (by simp)) e.cells_one (by simp only [maxLen];  omega) (by  omega) (by simp <;> omega) ?_; intro v3 w3 hown3 hg3 hat3))
          have HO3 := Lib.hid (HO2.out.app (e := e) (below_a1 w2 _) hown3 hg3 hat3)
          clear hown3 hg3 hat3
          go_roundw
          case rel => exact ⟨k + 1, true, out ++ [x] ++ [e], by omega, by go_num, rfl, Lib.hid (hlaid.out.put he.out HG.out), by simp; omega, HO3.out⟩
          case measure => simp [intOf]; omega
        · have hg0 : gtN e.nm x.nm = false := by simpa using hgt
          have hq : (Op.bytesLess e.nm.toList x.nm.toList || e.nm.toList == x.nm.toList) = true := by unfold gtN at hg0; simpa only [Bool.not_eq_false'] using hg0
          have HG := Lib.hid hg0
          clear hgt hg0
          go_wp2_with (at_builtin; refine wpList_append_any _ rfl (.tmp 32) (.tmp 34) _ rfl (w.heap.size + 1) 93 i0 _ 2 40 Try.underlying23 hi hz0 hz1 hz2 rfl (by omega) _ out.length (out.flatMap Ent.cells) rfl ((HO.out.own.alloc _).alloc _) ((wr.heap.size + 1) + 1) (some ⟨wr.heap.size + 1, 0, none⟩) 1 1 e.cells rfl (two_reads _ _ _ _ _ (by simp)) e.cells_one (by simp only [maxLen];  omega) (by  omega) (by simp; omega) ?_; intro v2 w2 hown2 hg2 hat2)
          have HO2 := Lib.hid (HO.out.app (e := e) (below_a2 wr _ _) hown2 hg2 hat2)
          clear hown2 hg2 hat2
          go_roundw
          case rel => exact ⟨k + 1, false, out ++ [e], by omega, by go_num, rfl, Lib.hid (hlaid.out.skip he.out HG.out), by simp; omega, HO2.out⟩
          case measure => simp [intOf]; omega
    · cases b with
      | true =>
        have HV := Lib.hid (hlaid.out.end_yes (by omega))
        obtain ⟨A2, c2, rfl⟩ := own_formK hout.own
        clear hx0 hx1
        go_wp2
        go_ret
        refine ⟨A2, c2, ?_, ?_, hbW⟩
        · rw [HV.out]; rfl
        · rw [HV.out]; exact own_mono HO.out.own (by omega)
      | false =>
        have HV := Lib.hid (hlaid.out.end_no (by omega))
        have HBW := Lib.hid hbW
        clear hx0 hx1 hout hbW
        go_wp2_with (at_builtin; refine wpList_append_any _ rfl (.tmp 39) (.tmp 41) _ rfl (w.heap.size + 1) 93 i0 _ 2 40 Try.underlying23 hi hz0 hz1 hz2 rfl (by omega) _ out.length (out.flatMap Ent.cells) rfl (HO.out.own.alloc _) (wr.heap.size + 1) (some ⟨wr.heap.size, 0, none⟩) 1 1 x.cells rfl (two_reads _ _ _ _ _ (by simp)) x.cells_one (by simp only [maxLen];  omega) (by  omega) (by simp; omega) ?_; intro v2 w2 hown2 hg2 hat2)
        have HO2 := Lib.hid (HO.out.app (e := x) (below_a1 wr _) hown2 hg2 hat2)
        have hb2 : Below w.heap.size w w2 := (HBW.out.alloc HBW.out.size _).grown hg2 (by simp; omega) (fun j hj => by have := HO.out.blk j hj; omega)
        obtain ⟨A2, c2, rfl⟩ := own_formK hown2
        clear hown2 hg2 hat2
        go_ret
        refine ⟨A2, c2, ?_, ?_, hb2⟩
        · rw [HV.out]; simp
        · rw [HV.out]
          have := own_mono HO2.out.own (Nat.le_succ w.heap.size)
          simpa using this
end Go.Proofs.Ytfcomnpoehpgiaa
