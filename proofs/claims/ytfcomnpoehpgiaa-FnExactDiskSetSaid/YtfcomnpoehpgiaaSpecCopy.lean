/- The contract of the model's function that copies a whole disk: new memory, the same data. -/
import Derived.Test.YtfcomnpoehpgiaaSpecFiles
namespace Go.Proofs.Ytfcomnpoehpgiaa
open Go.RowKit

/-- A row is kept where a row of another kind grows. -/
theorem own_grow {w w' : World} {lo lo' e e' size size' n n' : Nat} {v v' : Value} {xs xs' : List Value} (h : w.ownsRow lo e size v n xs) (hv : w.ownsRow lo' e' size' v' n' xs') (hne : e ≠ e') (hg : w.grownBy w' v'.ownBlock) : w'.ownsRow lo e size v n xs := by
  refine h.kept hg ?_
  rcases h.2 with ⟨rfl, _⟩ | ⟨g, cap, cur, rfl, _, hcell, _⟩
  · exact .inl rfl
  · refine .inr (fun hh => ?_)
    rcases hv.2 with ⟨rfl, _⟩ | ⟨g', cap', cur', rfl, _, hcell', _⟩
    · simp [Value.ownBlock] at hh
    · have e2 : g = g' := by simpa [Value.ownBlock] using hh
      subst e2
      rw [hcell] at hcell'
      injection hcell' with hcell'
      injection hcell' with _ h2
      exact hne h2
theorem builtO_none (w : World) : (w.alloc (.cells #[] 30)).ownsRow w.heap.size 30 4 (.slice (some ⟨w.heap.size, 0, none⟩) 0 0) 0 [] :=
  World.ownsRow_lit w #[] 0 (Nat.le_refl _) (by unfold maxLen; omega) rfl

/-- A block of four cells that may be written. -/
structure FBox (w : World) (b : Nat) (v0 v1 v2 v3 : Value) : Prop where
  box : Box4 w b v0 v1 v2 v3
  fr : ∀ i, w.frozen? ⟨b, i, none⟩ = false
section
variable {w w' : World} {b : Nat} {v0 v1 v2 v3 : Value}
theorem FBox.keep (h : FBox w b v0 v1 v2 v3) (hs : w.heap.size ≤ w'.heap.size) (hk : w'.heap[b]? = w.heap[b]?) : FBox w' b v0 v1 v2 v3 :=
  ⟨h.box.keep hs hk, fun i => by have := h.fr i; unfold World.frozen? at this ⊢; rw [hk]; exact this⟩
theorem FBox.below (h : FBox w b v0 v1 v2 v3) (hb : Below w.heap.size w w') : FBox w' b v0 v1 v2 v3 := h.keep hb.size (hb.block b h.box.lt)
theorem FBox.grown {row : Option Nat} (h : FBox w b v0 v1 v2 v3) (hg : w.grownBy w' row) (hr : row ≠ some b) : FBox w' b v0 v1 v2 v3 := h.keep hg.size (hg.block b h.box.lt (fun e => hr e.symm))
theorem FBox.new (w : World) (v0 v1 v2 v3 : Value) (t : TypeId) : FBox (w.alloc (.cells #[v0, v1, v2, v3] t)) w.heap.size v0 v1 v2 v3 := ⟨Box4.new w v0 v1 v2 v3 t, fun i => by simp⟩
theorem FBox.far (h : FBox w b v0 v1 v2 v3) {p : Addr} (hp : b ≠ p.block) (u : Value) : FBox (w.setCell p u) b v0 v1 v2 v3 := h.keep (by simp) (Below.heap_setCell w p u b hp)
theorem FBox.set0 (h : FBox w b v0 v1 v2 v3) (u : Value) : FBox (w.setCell ⟨b, 0, none⟩ u) b u v1 v2 v3 := by
  obtain ⟨⟨l, c0, c1, c2, c3⟩, fr⟩ := h
  exact ⟨⟨by simpa using l, World.cell?_setCell_same' _ _ _ (by rw [c0]; rfl), by rw [World.cell?_setCell_other _ _ _ _ (by simp)]; exact c1, by rw [World.cell?_setCell_other _ _ _ _ (by simp)]; exact c2, by rw [World.cell?_setCell_other _ _ _ _ (by simp)]; exact c3⟩, fun i => by simpa using fr i⟩
theorem FBox.set1 (h : FBox w b v0 v1 v2 v3) (u : Value) : FBox (w.setCell ⟨b, 1, none⟩ u) b v0 u v2 v3 := by
  obtain ⟨⟨l, c0, c1, c2, c3⟩, fr⟩ := h
  exact ⟨⟨by simpa using l, by rw [World.cell?_setCell_other _ _ _ _ (by simp)]; exact c0, World.cell?_setCell_same' _ _ _ (by rw [c1]; rfl), by rw [World.cell?_setCell_other _ _ _ _ (by simp)]; exact c2, by rw [World.cell?_setCell_other _ _ _ _ (by simp)]; exact c3⟩, fun i => by simpa using fr i⟩
theorem FBox.set2 (h : FBox w b v0 v1 v2 v3) (u : Value) : FBox (w.setCell ⟨b, 2, none⟩ u) b v0 v1 u v3 := by
  obtain ⟨⟨l, c0, c1, c2, c3⟩, fr⟩ := h
  exact ⟨⟨by simpa using l, by rw [World.cell?_setCell_other _ _ _ _ (by simp)]; exact c0, by rw [World.cell?_setCell_other _ _ _ _ (by simp)]; exact c1, World.cell?_setCell_same' _ _ _ (by rw [c2]; rfl), by rw [World.cell?_setCell_other _ _ _ _ (by simp)]; exact c3⟩, fun i => by simpa using fr i⟩
theorem FBox.set3 (h : FBox w b v0 v1 v2 v3) (u : Value) : FBox (w.setCell ⟨b, 3, none⟩ u) b v0 v1 v2 u := by
  obtain ⟨⟨l, c0, c1, c2, c3⟩, fr⟩ := h
  exact ⟨⟨by simpa using l, by rw [World.cell?_setCell_other _ _ _ _ (by simp)]; exact c0, by rw [World.cell?_setCell_other _ _ _ _ (by simp)]; exact c1, by rw [World.cell?_setCell_other _ _ _ _ (by simp)]; exact c2, World.cell?_setCell_same' _ _ _ (by rw [c3]; rfl)⟩, fun i => by simpa using fr i⟩
theorem FBox.alloc (h : FBox w b v0 v1 v2 v3) (o : Obj) : FBox (w.alloc o) b v0 v1 v2 v3 := h.below (below_a1 w o)
end

set_option maxRecDepth 10000 in
set_option maxHeartbeats 2000000 in
theorem specCopy (room fuse : Int) (A : Option Addr) (n c : Nat) (B : Option Addr) (m d : Nat) (es : List Ent) (os : List OpE) (w : World) (hf : SlF w A n es) (hn : n ≤ 1048576) (hs : ∀ e ∈ es, e.d.n ≤ 2097152)
    (ho : SlO w B m os) (hm : m ≤ 1048576) (ht : ∀ e ∈ os, e.d.n ≤ 2097152) :
    Calls Try.prog 66 #[.agg #[.int .i64 room, .int .i64 fuse, .slice A n c, .slice B m d]] w (MadeD w room fuse (es.map Ent.file) (os.map OpE.op)) := by
  obtain ⟨i0, hi, hz0, hz1, hz2⟩ := info_parts Try.infoOp
  obtain ⟨j0, hj, hy0, hy1, hy2⟩ := info_parts Try.infoByte
  have C := Lib.hid (fun w' (hb : Below w.heap.size w w') => specFiles A n c es w' (hf.below hb) hn hs)
  have HR := Lib.hid ho
  have HS := Lib.hid ht
  clear hf hs ho ht
  generalize es.map Ent.file = fs at C ⊢
  go_enter Try.func66, Try.ntmps66
  go_wp2_with fail
  refine (C.out _ (below_a2 _ _ _)).mono ?_
  rintro e w1 ⟨A1, c1, es1, rfl, hf1, ho1, hb1⟩
  obtain ⟨hc, hf⟩ := bcell hb1
  have hz : w.heap.size + 1 < w1.heap.size := by have := hb1.size; simp at this; omega
  have hz' : w.heap.size < w1.heap.size := by omega
  have HF1 := Lib.hid hf1
  have HB := Lib.hid hb1
  have HO := Lib.hid ho1
  clear hb1 hf1 ho1
  go_wp2
  have X0 : FBox ((w1.setCell ⟨w.heap.size, 2, none⟩ (.slice A1 es1.length c1)).alloc (.cells #[] 30)) w.heap.size (.int .i64 room) (.int .i64 fuse) (.slice A1 es1.length c1) (.slice B m d) :=
    (((((FBox.new w (.int .i64 room) (.int .i64 fuse) (.slice A n c) (.slice B m d) 26).alloc _).below HB.out).set2 _).alloc _)
  have X1 : FBox ((w1.setCell ⟨w.heap.size, 2, none⟩ (.slice A1 es1.length c1)).alloc (.cells #[] 30)) (w.heap.size + 1) (.int .i64 0) (.int .i64 0) (.slice none 0 0) (.slice none 0 0) := by
    have h := FBox.new (w.alloc (.cells #[.int .i64 room, .int .i64 fuse, .slice A n c, .slice B m d] 26)) (.int .i64 0) (.int .i64 0) (.slice none 0 0) (.slice none 0 0) 26
    rw [World.size_alloc] at h
    exact ((h.below HB.out).far (by simp) _).alloc _
  have X2 : Below w.heap.size w ((w1.setCell ⟨w.heap.size, 2, none⟩ (.slice A1 es1.length c1)).alloc (.cells #[] 30)) :=
    (((below_a2 w _ _).trans (HB.out.mono (by simp; omega))).setCell (Nat.le_refl _) _).alloc (by simp; omega) _
  have X3 : OwnF ((w1.setCell ⟨w.heap.size, 2, none⟩ (.slice A1 es1.length c1)).alloc (.cells #[] 30)) (w.heap.size + 1 + 1) A1 c1 es1 := by
    have h := HO.out
    rw [World.size_alloc, World.size_alloc] at h
    exact (h.keep (w' := w1.setCell ⟨w.heap.size, 2, none⟩ (.slice A1 es1.length c1)) (fun k hk _ => Below.heap_setCell _ _ _ _ (by simp; omega))).below (below_a1 _ _)
  have X4 : ((w1.setCell ⟨w.heap.size, 2, none⟩ (.slice A1 es1.length c1)).alloc (.cells #[] 30)).ownsRow (w.heap.size + 1 + 1) 30 4 (.slice (some ⟨w1.heap.size, 0, none⟩) 0 0) 0 [] := by
    have h := builtO_none (w1.setCell ⟨w.heap.size, 2, none⟩ (.slice A1 es1.length c1))
    rw [World.size_setCell] at h
    exact own_mono h (by omega)
  generalize (w1.setCell ⟨w.heap.size, 2, none⟩ (.slice A1 es1.length c1)).alloc (.cells #[] 30) = W0 at X0 X1 X2 X3 X4 ⊢
  have Y0 := Lib.hid X0
  have Y1 := Lib.hid X1
  have Y2 := Lib.hid X2
  have Y3 := Lib.hid X3
  have Y4 := Lib.hid X4
  clear X0 X1 X2 X3 X4 hc hf HB HO
  go_loopw [3, 14] (fun v i wr => ∃ (k : Nat) (out : List OpE), k ≤ m ∧ i = .int .i64 k ∧ Hid (out.length = k) ∧ Hid (out.map OpE.op = (os.take k).map OpE.op) ∧ Hid (wr.ownsRow (w.heap.size + 1 + 1) 30 4 v out.length (out.flatMap OpE.cells)) ∧ Hid (OwnB wr (w.heap.size + 1 + 1) (es1.map Ent.d ++ out.map OpE.d)) ∧ Hid (wr.ownsRow (w.heap.size + 1 + 1) 93 2 (.slice A1 es1.length c1) es1.length (es1.flatMap Ent.cells)) ∧ Hid (FBox wr w.heap.size (.int .i64 room) (.int .i64 fuse) (.slice A1 es1.length c1) (.slice B m d)) ∧ Hid (FBox wr (w.heap.size + 1) (.int .i64 0) (.int .i64 0) (.slice none 0 0) (.slice none 0 0)) ∧ Hid (Below w.heap.size w wr)) (fun _ i _ => m - (intOf i).toNat)
  case atStart => exact ⟨0, [], Nat.zero_le _, rfl, Lib.hid rfl, Lib.hid (by simp), Y4, Lib.hid (by simpa using Y3.out.dat), Lib.hid Y3.out.row, Y0, Y1, Y2⟩
  case round =>
    clear Y0 Y1 Y2 Y3 Y4
    obtain ⟨k, out, hk, rfl, hlen, hfs, hown, hdat, hfil, hx0, hx1, hbel⟩ := hrel
    have hle0 : w.heap.size + 1 < wr.heap.size := hx1.out.box.lt
    by_cases hlt : k < m
    · obtain ⟨b, off, e, hB, hbw, he, hok, c0, c1', c2, c3⟩ := HR.out.at_ hlt
      subst hB
      have c0 := (hbel.out.cell (p := ⟨b, off + k * 4, none⟩) hbw).trans c0
      have c1' := (hbel.out.cell (p := ⟨b, off + k * 4 + 1, none⟩) hbw).trans c1'
      have c2 := (hbel.out.cell (p := ⟨b, off + k * 4 + 2, none⟩) hbw).trans c2
      have c3 := (hbel.out.cell (p := ⟨b, off + k * 4 + 3, none⟩) hbw).trans c3
      have hen := HS.out e (List.mem_of_getElem? he.out)
      have hol : out.length ≤ k := by rw [hlen.out]; exact Nat.le_refl _
      have HOK := Lib.hid (hok.out.below hbel.out)
      have HRS := Lib.hid (hok.out.rd.small)
      have HSTEP := Lib.hid (take_step os k e he.out)
      have BX := Lib.hid (below_a1 wr (.cells #[.int .i64 e.kind, .string e.nm, .string e.to, .slice e.d.A e.d.n e.d.c] 30))
      have FX := Lib.hid (FBox.new wr (.int .i64 e.kind) (.string e.nm) (.string e.to) (.slice e.d.A e.d.n e.d.c) 30)
      have hz2' : (wr.alloc (.cells #[.int .i64 e.kind, .string e.nm, .string e.to, .slice e.d.A e.d.n e.d.c] 30)).heap.size = wr.heap.size + 1 := by simp
      clear hok he
      go_wp2_with (first
        | (at_builtin; refine wpList_append_any _ rfl (.tmp 18) (.tmp 20) _ rfl (wr.heap.size + 1) 5 j0 _ 1 1 Try.underlying22 hj hy0 hy1 hy2 rfl (by omega) (.slice (some ⟨wr.heap.size + 1, 0, none⟩) 0 0) 0 [] rfl (by have h := built_none (wr.alloc (.cells #[.int .i64 e.kind, .string e.nm, .string e.to, .slice e.d.A e.d.n e.d.c] 30)); rw [World.size_alloc] at h; exact h) (wr.heap.size + 1) e.d.A e.d.n e.d.c (vb e.d.xs) rfl (by have h := (HOK.out.below BX.out).rd.reads.alloc (Nat.le_refl _) (.cells #[] 5); rw [World.size_alloc] at h; exact h) (vb_oneCell _) (by simp only [maxLen]; omega) (by omega) (by simp) ?_; intro v1 w2 hown1 hg1 hat1; simp only [Nat.zero_add, List.nil_append] at hown1; obtain ⟨A2, cc2, hv1⟩ := own_form hown1; subst hv1; have FX2 := Lib.hid ((FX.out.alloc (.cells #[] 5)).grown hg1 (by simp [Value.ownBlock])); obtain ⟨⟨fl, f0, f1, f2, f3⟩, ffr⟩ := FX2.out; have fr3 := ffr 3; have HO1 := Lib.hid hown1; have hs2 : wr.heap.size + 2 ≤ w2.heap.size := (by have := hg1.size; simp at this; omega); have HB2 : Hid (Below wr.heap.size wr (w2.setCell ⟨wr.heap.size, 3, none⟩ (.slice A2 e.d.n cc2))) := Lib.hid (((below_a2 wr _ _).grown hg1 (by simp; omega) (fun j hj => by simp [Value.ownBlock] at hj; omega)).setCell (Nat.le_refl _) _); clear ffr hown1 hg1 hat1)
        | (at_builtin; refine wpList_append_any _ rfl (.tmp 23) (.tmp 25) _ rfl (w.heap.size + 1 + 1) 30 i0 _ 4 64 Try.underlying24 hi hz0 hz1 hz2 rfl (by omega) u3 out.length (out.flatMap OpE.cells) rfl ((own_below hown.out HB2.out).alloc _) (w2.heap.size + 1) (some ⟨w2.heap.size, 0, none⟩) 1 1 (OpE.cells ⟨e.kind, e.nm, e.to, ⟨A2, e.d.n, cc2, e.d.xs⟩⟩) rfl (four_reads _ _ _ _ _ _ _ (by simp)) (OpE.cells_one _) (by simp only [maxLen]; omega) (by omega) (by simp; omega) ?_; intro v2 w3 hown2 hg2 hat2))
      have HB3 := Lib.hid (below_chain HB2.out (below_a1 (w2.setCell ⟨wr.heap.size, 3, none⟩ (.slice A2 e.d.n cc2)) (.cells #[.int .i64 e.kind, .string e.nm, .string e.to, .slice A2 e.d.n cc2] 30)))
      have hrow := own_below hown.out HB3.out
      have hone : OwnB (w2.setCell ⟨wr.heap.size, 3, none⟩ (.slice A2 e.d.n cc2)) (wr.heap.size + 1) [⟨A2, e.d.n, cc2, e.d.xs⟩] := OwnB.one (d := ⟨A2, e.d.n, cc2, e.d.xs⟩) (own_set_low HO1.out (by simp) _) HRS.out
      have hall := (((hdat.out.below HB2.out).append (hone.mono (by omega)) (apart_of_time hdat.out (Nat.le_refl _) hone (by omega))).below (below_a1 _ (.cells #[.int .i64 e.kind, .string e.nm, .string e.to, .slice A2 e.d.n cc2] 30))).grow hrow (by decide) hg2
      have HALL := Lib.hid hall
      have HFIL := Lib.hid (own_grow (own_below hfil.out HB3.out) hrow (by decide) hg2)
      have hfar : ∀ g, g ≤ w.heap.size + 1 → u3.ownBlock ≠ some g := fun g hg hh => by have := (hrow.lt g hh).1; omega
      have HX0 := Lib.hid ((hx0.out.below HB3.out).grown hg2 (hfar _ (by omega)))
      have HX1 := Lib.hid ((hx1.out.below HB3.out).grown hg2 (hfar _ (by omega)))
      have HBE := Lib.hid ((below_chain hbel.out HB3.out).grown hg2 (by have := hbel.out.size; simp; omega) (fun j hj => by have := (hrow.lt j hj).1; omega))
      have ho3 : w3.ownsRow (w.heap.size + 1 + 1) 30 4 v2 (out ++ [(⟨e.kind, e.nm, e.to, ⟨A2, e.d.n, cc2, e.d.xs⟩⟩ : OpE)]).length ((out ++ [(⟨e.kind, e.nm, e.to, ⟨A2, e.d.n, cc2, e.d.xs⟩⟩ : OpE)]).flatMap OpE.cells) := by
        rw [flat_snoc, List.length_append]
        exact hown2
      have HO3 := Lib.hid ho3
      clear hone hall hrow hfar ho3 hown2 hg2 hat2 fl f0 f1 f2 f3 fr3
      go_wp2
      go_roundw
      case rel => exact ⟨k + 1, out ++ [⟨e.kind, e.nm, e.to, ⟨A2, e.d.n, cc2, e.d.xs⟩⟩], by omega, by go_num, Lib.hid (by simp [hlen.out]), Lib.hid (by rw [HSTEP.out, List.map_append, List.map_append, hfs.out]; rfl), HO3, Lib.hid (by rw [List.map_append, ← List.append_assoc]; exact HALL.out), HFIL, HX0, HX1, HBE⟩
      case measure => simp [intOf]; omega
    · have hkn : k = m := by omega
      subst hkn
      obtain ⟨B2, d2, rfl⟩ := own_formK hown.out
      obtain ⟨⟨l0, x00, x01, x02, x03⟩, fr0⟩ := hx0.out
      obtain ⟨⟨l1, x10, x11, x12, x13⟩, fr1⟩ := hx1.out
      have fr03 := fr0 3
      have fr10 := fr1 0
      have fr11 := fr1 1
      have fr12 := fr1 2
      have fr13 := fr1 3
      clear fr0 fr1
      go_wp2
      have hxx := (List.pairwise_append.1 hdat.out.apart).2.2
      refine bodyPost_ret (v := .agg #[.int .i64 room, .int .i64 fuse, .slice A1 es1.length c1, .slice B2 out.length d2]) (by simp [results, Try.results66, go_sem, x10, x11, x12, x13]) rfl ⟨A1, c1, B2, d2, es1, out, rfl, HF1.out, ?_, ?_, ?_⟩
      · rw [hfs.out, List.take_of_length_le (by have := HR.out.len; omega)]
      · have h2 : OwnD wr (w.heap.size + 1 + 1) A1 c1 B2 d2 es1 out := ⟨⟨hfil.out, hdat.out.left⟩, ⟨hown.out, hdat.out.right⟩, hxx⟩
        refine OwnD.mono (OwnD.lows h2 ?_) (by omega)
        exact Lows.set (Lows.set (Lows.set (Lows.set (Lows.set (Lows.refl _ _) (by simp <;> omega) _) (by simp <;> omega) _) (by simp <;> omega) _) (by simp <;> omega) _) (by simp <;> omega) _
      · exact Below.setCell (Below.setCell (Below.setCell (Below.setCell (Below.setCell hbel.out (by simp <;> omega) _) (by simp <;> omega) _) (by simp <;> omega) _) (by simp <;> omega) _) (by simp <;> omega) _
end Go.Proofs.Ytfcomnpoehpgiaa
