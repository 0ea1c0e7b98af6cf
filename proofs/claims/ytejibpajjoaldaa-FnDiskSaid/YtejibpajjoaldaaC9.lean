/- The contracts of the model's functions that copy files and a whole disk: new memory, the same data. // The contract of the model's function that copies a whole disk: new memory, the same data. // The contract of the program's function that copies a whole disk: new memory, the same data. // The contracts of the model's and of the program's function that sets a disk's room and fuse. // More words for the laws' walks: the marking of a disk that the law itself has copied. // Words for the laws on functions that give a slice of files or of bytes: what reads, what is owned, what bears the marks; the laws' calls over them. // The contracts of the model's functions that give the visible files: after the first operations, and in the end. -/
import Derived.Deep.RegionHeld3
import Derived.Test.YtejibpajjoaldaaC1
import Derived.Test.YtejibpajjoaldaaC5
import Derived.Test.YtejibpajjoaldaaC8
namespace Go.Proofs.Ytejibpajjoaldaa
open Go.RowKit

/-- Slices of bytes of the call's own are kept where a row of another kind grows. -/
theorem OwnB.grow {w w' : World} {lo lo' e size n : Nat} {l : List Dat} {v : Value} {xs : List Value} (h : OwnB w lo l) (hv : w.ownsRow lo' e size v n xs) (hne : e ≠ 5) (hg : w.grownBy w' v.ownBlock) : OwnB w' lo l := by
  rcases hv.2 with ⟨rfl, _⟩ | ⟨g, cap, cur, rfl, _, hcell, _⟩
  · exact h.kept hg (fun d _ => by cases d.v.ownBlock <;> simp [Value.ownBlock])
  · exact h.kept hg (h.far hcell hne)
theorem Dat.v_eq (A : Option Addr) (n c : Nat) (xs : List Nat) : (⟨A, n, c, xs⟩ : Dat).v = .slice A n c := rfl

set_option maxRecDepth 10000 in
set_option maxHeartbeats 2000000 in
theorem specFiles (A : Option Addr) (n c : Nat) (es : List Ent) (w : World) (hr : SlF w A n es) (hn : n ≤ 1048576) (hs : ∀ e ∈ es, e.d.n ≤ 2097152) :
    Calls Try.prog 82 #[.slice A n c] w (MadeFs w (es.map Ent.file)) := by
  obtain ⟨i0, hi, hz0, hz1, hz2⟩ := info_parts Try.infoFile
  obtain ⟨j0, hj, hy0, hy1, hy2⟩ := info_parts Try.infoByte
  have HR := Lib.hid hr
  have HS := Lib.hid hs
  clear hr hs
  go_enter Try.func82, Try.ntmps82
  go_wp2
  go_loopw [3, 9] (fun v i wr => ∃ (k : Nat) (out : List Ent), k ≤ n ∧ i = .int .i64 k ∧ Hid (out.length = k) ∧ Hid (out.map Ent.file = (es.take k).map Ent.file) ∧ Hid (wr.ownsRow w.heap.size 87 2 v out.length (out.flatMap Ent.cells)) ∧ Hid (OwnB wr w.heap.size (out.map Ent.d)) ∧ Hid (Below w.heap.size w wr)) (fun _ i _ => n - (intOf i).toNat)
  case atStart => exact ⟨0, [], Nat.zero_le _, rfl, Lib.hid rfl, Lib.hid (by simp), Lib.hid (builtF_none w), Lib.hid OwnB.nil, Lib.hid (below_a1 _ _)⟩
  case round =>
    obtain ⟨k, out, hk, rfl, hlen, hfs, hown, hdat, hbel⟩ := hrel
    by_cases hlt : k < n
    · obtain ⟨b, off, e, hA, hbw, he, hok, c0, c1⟩ := HR.out.at_ hlt
      subst hA
      have c0 := (hbel.out.cell (p := ⟨b, off + k * 2, none⟩) hbw).trans c0
      have c1 := (hbel.out.cell (p := ⟨b, off + k * 2 + 1, none⟩) hbw).trans c1
      have hen := HS.out e (List.mem_of_getElem? he.out)
      have hol : out.length ≤ k := by rw [hlen.out]; exact Nat.le_refl _
      have HOK := Lib.hid (hok.out.below hbel.out)
      have HRS := Lib.hid (hok.out.rd.small)
      have HSTEP := Lib.hid (take_step es k e he.out)
      clear hok he
      go_wp2
      have BX := Lib.hid (below_a1 wr (.cells #[.string e.nm, .slice e.d.A e.d.n e.d.c] 87))
      have q0 : (wr.alloc (.cells #[.string e.nm, .slice e.d.A e.d.n e.d.c] 87)).cell? ⟨wr.heap.size, 0, none⟩ = some (.string e.nm) := by simp
      have q1 : (wr.alloc (.cells #[.string e.nm, .slice e.d.A e.d.n e.d.c] 87)).cell? ⟨wr.heap.size, 1, none⟩ = some (.slice e.d.A e.d.n e.d.c) := by simp
      have hlt0 : wr.heap.size < (wr.alloc (.cells #[.string e.nm, .slice e.d.A e.d.n e.d.c] 87)).heap.size := by simp
      generalize wr.alloc (.cells #[.string e.nm, .slice e.d.A e.d.n e.d.c] 87) = wq at BX q0 q1 hlt0 ⊢
      have HBQ := Lib.hid (below_chain hbel.out BX.out)
      have hle0 : w.heap.size ≤ wr.heap.size := hbel.out.size
      have HOQ := Lib.hid (own_below hown.out BX.out)
      have HDQ := Lib.hid (hdat.out.below BX.out)
      clear c0 c1
      go_region_held3 (fun W => W.cell? ⟨wr.heap.size, 0, none⟩ = some (.string e.nm) ∧ W.cell? ⟨wr.heap.size, 1, none⟩ = some (.slice e.d.A e.d.n e.d.c))
        (first
          | go_keep
          | (exact ⟨(World.cell?_of_block (a := ⟨wr.heap.size, 0, none⟩) (hg2.block wr.heap.size (by simp; omega) (fun hh => by have := (hown.out.lt _ hh.symm).2; omega))).trans (by simp [*]), (World.cell?_of_block (a := ⟨wr.heap.size, 1, none⟩) (hg2.block wr.heap.size (by simp; omega) (fun hh => by have := (hown.out.lt _ hh.symm).2; omega))).trans (by simp [*])⟩)
          | (exact ⟨(World.cell?_of_block (a := ⟨wr.heap.size, 0, none⟩) (hg1.block wr.heap.size (by simp; omega) (fun hh => by simp [Value.ownBlock] at hh; omega))).trans (by simp [*]), (World.cell?_of_block (a := ⟨wr.heap.size, 1, none⟩) (hg1.block wr.heap.size (by simp; omega) (fun hh => by simp [Value.ownBlock] at hh; omega))).trans (by simp [*])⟩))
        (first
          | (refine step_append_any _ (by rfl) (.tmp 16) (.tmp 18) _ (by rfl) wq.heap.size 5 j0 _ 1 1 Try.underlying22 hj hy0 hy1 hy2 rfl (by omega) (.slice (some ⟨wq.heap.size, 0, none⟩) 0 0) 0 [] (by rfl) (built_none wq) wq.heap.size e.d.A e.d.n e.d.c (vb e.d.xs) (by rfl) ((HOK.out.below BX.out).rd.reads.alloc (Nat.le_refl _) _) (vb_oneCell _) (by simp only [maxLen]; omega) (by omega) (by simp) ?_; intro v1 w2 hown1 hg1 hat1; simp only [Nat.zero_add, List.nil_append] at hown1; obtain ⟨A2, c2, hv1⟩ := own_form hown1; subst hv1; have HB2 : Hid (Below wq.heap.size wq w2) := Lib.hid (by first | exact (below_a1 wq _).drew.grown hg1 (by simp) (fun k hk => by simp [Value.ownBlock] at hk; omega) | exact (below_a1 wq _).grown hg1 (by simp) (fun k hk => by simp [Value.ownBlock] at hk; omega)); have HO1 := Lib.hid hown1; have hs2 : wq.heap.size ≤ w2.heap.size := (by have := hg1.size; simp at this; omega))
          | (refine step_append_any _ (by rfl) (.tmp 13) (.tmp 21) _ (by rfl) w.heap.size 87 i0 _ 2 40 Try.underlying23 hi hz0 hz1 hz2 rfl (by omega) u3 out.length (out.flatMap Ent.cells) (by rfl) ((own_below HOQ.out HB2.out).alloc (.cells #[.string e.nm, .slice A2 e.d.n c2] 87)) (w2.heap.size + 1) (some ⟨w2.heap.size, 0, none⟩) 1 1 [.string e.nm, .slice A2 e.d.n c2] (by rfl) (two_reads w2 (.string e.nm) (.slice A2 e.d.n c2) 87 w2.heap.size rfl) (Ent.cells_one ⟨e.nm, ⟨A2, e.d.n, c2, e.d.xs⟩⟩) (by simp only [maxLen]; omega) (by omega) (by simp; omega) ?_; intro v2 w3 hown2 hg2 hat2))
      all_goals
        have hd2 : OwnB w2 w.heap.size (out.map Ent.d) := HDQ.out.below HB2.out
        have hone : OwnB w2 wq.heap.size [⟨A2, e.d.n, c2, e.d.xs⟩] := OwnB.one (d := ⟨A2, e.d.n, c2, e.d.xs⟩) HO1.out HRS.out
        have hall := hd2.append (hone.mono HBQ.out.size) (apart_of_time HDQ.out (Nat.le_refl _) hone (Nat.le_refl _))
        have hrow : (w2.alloc (.cells #[.string e.nm, .slice A2 e.d.n c2] 87)).ownsRow w.heap.size 87 2 u3 out.length (out.flatMap Ent.cells) := (own_below HOQ.out HB2.out).alloc _
        have hall2 := (hall.below (below_a1 w2 (.cells #[.string e.nm, .slice A2 e.d.n c2] 87))).grow hrow (by decide) hg2
        have HALL := Lib.hid hall2
        have hb3 : Below w.heap.size w w3 := (below_chain (below_chain HBQ.out HB2.out) (below_a1 w2 _)).grown hg2 (by simp; omega) (fun j hj => (HOQ.out.lt j hj).1)
        have HB3 := Lib.hid hb3
        have ho3 : w3.ownsRow w.heap.size 87 2 v2 (out ++ [(⟨e.nm, ⟨A2, e.d.n, c2, e.d.xs⟩⟩ : Ent)]).length ((out ++ [(⟨e.nm, ⟨A2, e.d.n, c2, e.d.xs⟩⟩ : Ent)]).flatMap Ent.cells) := by
          rw [flat_snoc, List.length_append]
          exact hown2
        have HO3 := Lib.hid ho3
        clear hd2 hone hall hrow hall2 hb3 ho3 hown2 hg2 hat2 hown1 hat1 hg1
        go_wp2
        go_roundw
        case rel => exact ⟨k + 1, out ++ [⟨e.nm, ⟨A2, e.d.n, c2, e.d.xs⟩⟩], by omega, by go_num, Lib.hid (by simp [hlen.out]), Lib.hid (by rw [HSTEP.out, List.map_append, List.map_append, hfs.out]; rfl), HO3, Lib.hid (by rw [List.map_append]; exact HALL.out), HB3⟩
        case measure => simp [intOf]; omega
    · have hkn : k = n := by omega
      subst hkn
      obtain ⟨A2, c2, rfl⟩ := own_formK hown.out
      go_wp2
      go_ret
      exact ⟨A2, c2, out, rfl, by rw [hfs.out, List.take_of_length_le (by have := HR.out.len; omega)], ⟨hown.out, hdat.out⟩, hbel.out⟩
end Go.Proofs.Ytejibpajjoaldaa
namespace Go.Proofs.Ytejibpajjoaldaa
open Go.RowKit

/-- A row is kept where a row of another kind grows. -/
theorem own_grow {w w' : World} {lo lo' e e' size size' n n' : Nat} {v v' : Value} {xs xs' : List Value} (h : w.ownsRow lo e size v n xs) (hv : w.ownsRow lo' e' size' v' n' xs') (hne : e ≠ e') (hg : w.grownBy w' v'.ownBlock) : w'.ownsRow lo e size v n xs := by
  refine h.kept hg ?_
  rcases h.2 with ⟨rfl, _⟩ | ⟨g, cap, cur, rfl, _, hcell, _⟩
  · exact .inl rfl
  · refine .inr (fun hh => ?_)
    rcases hv.2 with ⟨rfl, _⟩ | ⟨g', cap', cur', rfl, _, hcell', _⟩
    · simp [Value.ownBlock] at hh
    · have e2 : g = g' := by simpa [Value.ownBlock] using hh
      subst e2
      rw [hcell] at hcell'
      injection hcell' with hcell'
      injection hcell' with _ h2
      exact hne h2
theorem builtO_none (w : World) : (w.alloc (.cells #[] 30)).ownsRow w.heap.size 30 4 (.slice (some ⟨w.heap.size, 0, none⟩) 0 0) 0 [] :=
  World.ownsRow_lit w #[] 0 (Nat.le_refl _) (by unfold maxLen; omega) rfl

/-- A block of four cells that may be written. -/
structure FBox (w : World) (b : Nat) (v0 v1 v2 v3 : Value) : Prop where
  box : Box4 w b v0 v1 v2 v3
  fr : ∀ i, w.frozen? ⟨b, i, none⟩ = false
section
variable {w w' : World} {b : Nat} {v0 v1 v2 v3 : Value}
theorem FBox.keep (h : FBox w b v0 v1 v2 v3) (hs : w.heap.size ≤ w'.heap.size) (hk : w'.heap[b]? = w.heap[b]?) : FBox w' b v0 v1 v2 v3 :=
  ⟨h.box.keep hs hk, fun i => by have := h.fr i; unfold World.frozen? at this ⊢; rw [hk]; exact this⟩
theorem FBox.below (h : FBox w b v0 v1 v2 v3) (hb : Below w.heap.size w w') : FBox w' b v0 v1 v2 v3 := h.keep hb.size (hb.block b h.box.lt)
theorem FBox.grown {row : Option Nat} (h : FBox w b v0 v1 v2 v3) (hg : w.grownBy w' row) (hr : row ≠ some b) : FBox w' b v0 v1 v2 v3 := h.keep hg.size (hg.block b h.box.lt (fun e => hr e.symm))
theorem FBox.new (w : World) (v0 v1 v2 v3 : Value) (t : TypeId) : FBox (w.alloc (.cells #[v0, v1, v2, v3] t)) w.heap.size v0 v1 v2 v3 := ⟨Box4.new w v0 v1 v2 v3 t, fun i => by simp⟩
theorem FBox.far (h : FBox w b v0 v1 v2 v3) {p : Addr} (hp : b ≠ p.block) (u : Value) : FBox (w.setCell p u) b v0 v1 v2 v3 := h.keep (by simp) (Below.heap_setCell w p u b hp)
theorem FBox.set0 (h : FBox w b v0 v1 v2 v3) (u : Value) : FBox (w.setCell ⟨b, 0, none⟩ u) b u v1 v2 v3 := by
  obtain ⟨⟨l, c0, c1, c2, c3⟩, fr⟩ := h
  exact ⟨⟨by simpa using l, World.cell?_setCell_same' _ _ _ (by rw [c0]; rfl), by rw [World.cell?_setCell_other _ _ _ _ (by simp)]; exact c1, by rw [World.cell?_setCell_other _ _ _ _ (by simp)]; exact c2, by rw [World.cell?_setCell_other _ _ _ _ (by simp)]; exact c3⟩, fun i => by simpa using fr i⟩
theorem FBox.set1 (h : FBox w b v0 v1 v2 v3) (u : Value) : FBox (w.setCell ⟨b, 1, none⟩ u) b v0 u v2 v3 := by
  obtain ⟨⟨l, c0, c1, c2, c3⟩, fr⟩ := h
  exact ⟨⟨by simpa using l, by rw [World.cell?_setCell_other _ _ _ _ (by simp)]; exact c0, World.cell?_setCell_same' _ _ _ (by rw [c1]; rfl), by rw [World.cell?_setCell_other _ _ _ _ (by simp)]; exact c2, by rw [World.cell?_setCell_other _ _ _ _ (by simp)]; exact c3⟩, fun i => by simpa using fr i⟩
theorem FBox.set2 (h : FBox w b v0 v1 v2 v3) (u : Value) : FBox (w.setCell ⟨b, 2, none⟩ u) b v0 v1 u v3 := by
  obtain ⟨⟨l, c0, c1, c2, c3⟩, fr⟩ := h
  exact ⟨⟨by simpa using l, by rw [World.cell?_setCell_other _ _ _ _ (by simp)]; exact c0, by rw [World.cell?_setCell_other _ _ _ _ (by simp)]; exact c1, World.cell?_setCell_same' _ _ _ (by rw [c2]; rfl), by rw [World.cell?_setCell_other _ _ _ _ (by simp)]; exact c3⟩, fun i => by simpa using fr i⟩
theorem FBox.set3 (h : FBox w b v0 v1 v2 v3) (u : Value) : FBox (w.setCell ⟨b, 3, none⟩ u) b v0 v1 v2 u := by
  obtain ⟨⟨l, c0, c1, c2, c3⟩, fr⟩ := h
  exact ⟨⟨by simpa using l, by rw [World.cell?_setCell_other _ _ _ _ (by simp)]; exact c0, by rw [World.cell?_setCell_other _ _ _ _ (by simp)]; exact c1, by rw [World.cell?_setCell_other _ _ _ _ (by simp)]; exact c2, World.cell?_setCell_same' _ _ _ (by rw [c3]; rfl)⟩, fun i => by simpa using fr i⟩
theorem FBox.alloc (h : FBox w b v0 v1 v2 v3) (o : Obj) : FBox (w.alloc o) b v0 v1 v2 v3 := h.below (below_a1 w o)
end

set_option maxRecDepth 10000 in
set_option maxHeartbeats 2000000 in
theorem specCopy (room fuse : Int) (A : Option Addr) (n c : Nat) (B : Option Addr) (m d : Nat) (es : List Ent) (os : List OpE) (w : World) (hf : SlF w A n es) (hn : n ≤ 1048576) (hs : ∀ e ∈ es, e.d.n ≤ 2097152)
    (ho : SlO w B m os) (hm : m ≤ 1048576) (ht : ∀ e ∈ os, e.d.n ≤ 2097152) :
    Calls Try.prog 51 #[.agg #[.int .i64 room, .int .i64 fuse, .slice A n c, .slice B m d]] w (MadeD w room fuse (es.map Ent.file) (os.map OpE.op)) := by
  obtain ⟨i0, hi, hz0, hz1, hz2⟩ := info_parts Try.infoOp
  obtain ⟨j0, hj, hy0, hy1, hy2⟩ := info_parts Try.infoByte
  have C := Lib.hid (fun w' (hb : Below w.heap.size w w') => specFiles A n c es w' (hf.below hb) hn hs)
  have HR := Lib.hid ho
  have HS := Lib.hid ht
  clear hf hs ho ht
  generalize es.map Ent.file = fs at C ⊢
  go_enter Try.func51, Try.ntmps51
  go_wp2_with fail
  refine (C.out _ (below_a2 _ _ _)).mono ?_
  rintro e w1 ⟨A1, c1, es1, rfl, hf1, ho1, hb1⟩
  obtain ⟨hc, hf⟩ := bcell hb1
  have hz : w.heap.size + 1 < w1.heap.size := by have := hb1.size; simp at this; omega
  have hz' : w.heap.size < w1.heap.size := by omega
  have HF1 := Lib.hid hf1
  have HB := Lib.hid hb1
  have HO := Lib.hid ho1
  clear hb1 hf1 ho1
  go_wp2
  have X0 : FBox ((w1.setCell ⟨w.heap.size, 2, none⟩ (.slice A1 es1.length c1)).alloc (.cells #[] 30)) w.heap.size (.int .i64 room) (.int .i64 fuse) (.slice A1 es1.length c1) (.slice B m d) :=
    (((((FBox.new w (.int .i64 room) (.int .i64 fuse) (.slice A n c) (.slice B m d) 26).alloc _).below HB.out).set2 _).alloc _)
  have X1 : FBox ((w1.setCell ⟨w.heap.size, 2, none⟩ (.slice A1 es1.length c1)).alloc (.cells #[] 30)) (w.heap.size + 1) (.int .i64 0) (.int .i64 0) (.slice none 0 0) (.slice none 0 0) := by
    have h := FBox.new (w.alloc (.cells #[.int .i64 room, .int .i64 fuse, .slice A n c, .slice B m d] 26)) (.int .i64 0) (.int .i64 0) (.slice none 0 0) (.slice none 0 0) 26
    rw [World.size_alloc] at h
    exact ((h.below HB.out).far (by simp) _).alloc _
  have X2 : Below w.heap.size w ((w1.setCell ⟨w.heap.size, 2, none⟩ (.slice A1 es1.length c1)).alloc (.cells #[] 30)) :=
    (((below_a2 w _ _).trans (HB.out.mono (by simp; omega))).setCell (Nat.le_refl _) _).alloc (by simp; omega) _
  have X3 : OwnF ((w1.setCell ⟨w.heap.size, 2, none⟩ (.slice A1 es1.length c1)).alloc (.cells #[] 30)) (w.heap.size + 1 + 1) A1 c1 es1 := by
    have h := HO.out
    rw [World.size_alloc, World.size_alloc] at h
    exact (h.keep (w' := w1.setCell ⟨w.heap.size, 2, none⟩ (.slice A1 es1.length c1)) (fun k hk _ => Below.heap_setCell _ _ _ _ (by simp; omega))).below (below_a1 _ _)
  have X4 : ((w1.setCell ⟨w.heap.size, 2, none⟩ (.slice A1 es1.length c1)).alloc (.cells #[] 30)).ownsRow (w.heap.size + 1 + 1) 30 4 (.slice (some ⟨w1.heap.size, 0, none⟩) 0 0) 0 [] := by
    have h := builtO_none (w1.setCell ⟨w.heap.size, 2, none⟩ (.slice A1 es1.length c1))
    rw [World.size_setCell] at h
    exact own_mono h (by omega)
  generalize (w1.setCell ⟨w.heap.size, 2, none⟩ (.slice A1 es1.length c1)).alloc (.cells #[] 30) = W0 at X0 X1 X2 X3 X4 ⊢
  have Y0 := Lib.hid X0
  have Y1 := Lib.hid X1
  have Y2 := Lib.hid X2
  have Y3 := Lib.hid X3
  have Y4 := Lib.hid X4
  clear X0 X1 X2 X3 X4 hc hf HB HO
  go_loopw [3, 14] (fun v i wr => ∃ (k : Nat) (out : List OpE), k ≤ m ∧ i = .int .i64 k ∧ Hid (out.length = k) ∧ Hid (out.map OpE.op = (os.take k).map OpE.op) ∧ Hid (wr.ownsRow (w.heap.size + 1 + 1) 30 4 v out.length (out.flatMap OpE.cells)) ∧ Hid (OwnB wr (w.heap.size + 1 + 1) (es1.map Ent.d ++ out.map OpE.d)) ∧ Hid (wr.ownsRow (w.heap.size + 1 + 1) 87 2 (.slice A1 es1.length c1) es1.length (es1.flatMap Ent.cells)) ∧ Hid (FBox wr w.heap.size (.int .i64 room) (.int .i64 fuse) (.slice A1 es1.length c1) (.slice B m d)) ∧ Hid (FBox wr (w.heap.size + 1) (.int .i64 0) (.int .i64 0) (.slice none 0 0) (.slice none 0 0)) ∧ Hid (Below w.heap.size w wr)) (fun _ i _ => m - (intOf i).toNat)
  case atStart => exact ⟨0, [], Nat.zero_le _, rfl, Lib.hid rfl, Lib.hid (by simp), Y4, Lib.hid (by simpa using Y3.out.dat), Lib.hid Y3.out.row, Y0, Y1, Y2⟩
  case round =>
    clear Y0 Y1 Y2 Y3 Y4
    obtain ⟨k, out, hk, rfl, hlen, hfs, hown, hdat, hfil, hx0, hx1, hbel⟩ := hrel
    have hle0 : w.heap.size + 1 < wr.heap.size := hx1.out.box.lt
    by_cases hlt : k < m
    · obtain ⟨b, off, e, hB, hbw, he, hok, c0, c1', c2, c3⟩ := HR.out.at_ hlt
      subst hB
      have c0 := (hbel.out.cell (p := ⟨b, off + k * 4, none⟩) hbw).trans c0
      have c1' := (hbel.out.cell (p := ⟨b, off + k * 4 + 1, none⟩) hbw).trans c1'
      have c2 := (hbel.out.cell (p := ⟨b, off + k * 4 + 2, none⟩) hbw).trans c2
      have c3 := (hbel.out.cell (p := ⟨b, off + k * 4 + 3, none⟩) hbw).trans c3
      have hen := HS.out e (List.mem_of_getElem? he.out)
      have hol : out.length ≤ k := by rw [hlen.out]; exact Nat.le_refl _
      have HOK := Lib.hid (hok.out.below hbel.out)
      have HRS := Lib.hid (hok.out.rd.small)
      have HSTEP := Lib.hid (take_step os k e he.out)
      have BX := Lib.hid (below_a1 wr (.cells #[.int .i64 e.kind, .string e.nm, .string e.to, .slice e.d.A e.d.n e.d.c] 30))
      have FX := Lib.hid (FBox.new wr (.int .i64 e.kind) (.string e.nm) (.string e.to) (.slice e.d.A e.d.n e.d.c) 30)
      have hz2' : (wr.alloc (.cells #[.int .i64 e.kind, .string e.nm, .string e.to, .slice e.d.A e.d.n e.d.c] 30)).heap.size = wr.heap.size + 1 := by simp
      clear hok he
      go_wp2_with (first
        | (at_builtin; refine wpList_append_any _ rfl (.tmp 18) (.tmp 20) _ rfl (wr.heap.size + 1) 5 j0 _ 1 1 Try.underlying22 hj hy0 hy1 hy2 rfl (by omega) (.slice (some ⟨wr.heap.size + 1, 0, none⟩) 0 0) 0 [] rfl (by have h := built_none (wr.alloc (.cells #[.int .i64 e.kind, .string e.nm, .string e.to, .slice e.d.A e.d.n e.d.c] 30)); rw [World.size_alloc] at h; exact h) (wr.heap.size + 1) e.d.A e.d.n e.d.c (vb e.d.xs) rfl (by have h := (HOK.out.below BX.out).rd.reads.alloc (Nat.le_refl _) (.cells #[] 5); rw [World.size_alloc] at h; exact h) (vb_oneCell _) (by simp only [maxLen]; omega) (by omega) (by simp) ?_; intro v1 w2 hown1 hg1 hat1; simp only [Nat.zero_add, List.nil_append] at hown1; obtain ⟨A2, cc2, hv1⟩ := own_form hown1; subst hv1; have FX2 := Lib.hid ((FX.out.alloc (.cells #[] 5)).grown hg1 (by simp [Value.ownBlock])); obtain ⟨⟨fl, f0, f1, f2, f3⟩, ffr⟩ := FX2.out; have fr3 := ffr 3; have HO1 := Lib.hid hown1; have hs2 : wr.heap.size + 2 ≤ w2.heap.size := (by have := hg1.size; simp at this; omega); have HB2 : Hid (Below wr.heap.size wr (w2.setCell ⟨wr.heap.size, 3, none⟩ (.slice A2 e.d.n cc2))) := Lib.hid (((below_a2 wr _ _).grown hg1 (by simp; omega) (fun j hj => by simp [Value.ownBlock] at hj; omega)).setCell (Nat.le_refl _) _); clear ffr hown1 hg1 hat1)
        | (at_builtin; refine wpList_append_any _ rfl (.tmp 23) (.tmp 25) _ rfl (w.heap.size + 1 + 1) 30 i0 _ 4 64 Try.underlying24 hi hz0 hz1 hz2 rfl (by omega) u3 out.length (out.flatMap OpE.cells) rfl ((own_below hown.out HB2.out).alloc _) (w2.heap.size + 1) (some ⟨w2.heap.size, 0, none⟩) 1 1 (OpE.cells ⟨e.kind, e.nm, e.to, ⟨A2, e.d.n, cc2, e.d.xs⟩⟩) rfl (four_reads _ _ _ _ _ _ _ (by simp)) (OpE.cells_one _) (by simp only [maxLen]; omega) (by omega) (by simp; omega) ?_; intro v2 w3 hown2 hg2 hat2))
      have HB3 := Lib.hid (below_chain HB2.out (below_a1 (w2.setCell ⟨wr.heap.size, 3, none⟩ (.slice A2 e.d.n cc2)) (.cells #[.int .i64 e.kind, .string e.nm, .string e.to, .slice A2 e.d.n cc2] 30)))
      have hrow := own_below hown.out HB3.out
      have hone : OwnB (w2.setCell ⟨wr.heap.size, 3, none⟩ (.slice A2 e.d.n cc2)) (wr.heap.size + 1) [⟨A2, e.d.n, cc2, e.d.xs⟩] := OwnB.one (d := ⟨A2, e.d.n, cc2, e.d.xs⟩) (own_set_low HO1.out (by simp) _) HRS.out
      have hall := (((hdat.out.below HB2.out).append (hone.mono (by omega)) (apart_of_time hdat.out (Nat.le_refl _) hone (by omega))).below (below_a1 _ (.cells #[.int .i64 e.kind, .string e.nm, .string e.to, .slice A2 e.d.n cc2] 30))).grow hrow (by decide) hg2
      have HALL := Lib.hid hall
      have HFIL := Lib.hid (own_grow (own_below hfil.out HB3.out) hrow (by decide) hg2)
      have hfar : ∀ g, g ≤ w.heap.size + 1 → u3.ownBlock ≠ some g := fun g hg hh => by have := (hrow.lt g hh).1; omega
      have HX0 := Lib.hid ((hx0.out.below HB3.out).grown hg2 (hfar _ (by omega)))
      have HX1 := Lib.hid ((hx1.out.below HB3.out).grown hg2 (hfar _ (by omega)))
      have HBE := Lib.hid ((below_chain hbel.out HB3.out).grown hg2 (by have := hbel.out.size; simp; omega) (fun j hj => by have := (hrow.lt j hj).1; omega))
      have ho3 : w3.ownsRow (w.heap.size + 1 + 1) 30 4 v2 (out ++ [(⟨e.kind, e.nm, e.to, ⟨A2, e.d.n, cc2, e.d.xs⟩⟩ : OpE)]).length ((out ++ [(⟨e.kind, e.nm, e.to, ⟨A2, e.d.n, cc2, e.d.xs⟩⟩ : OpE)]).flatMap OpE.cells) := by
        rw [flat_snoc, List.length_append]
        exact hown2
      have HO3 := Lib.hid ho3
      clear hone hall hrow hfar ho3 hown2 hg2 hat2 fl f0 f1 f2 f3 fr3
      go_wp2
      go_roundw
      case rel => exact ⟨k + 1, out ++ [⟨e.kind, e.nm, e.to, ⟨A2, e.d.n, cc2, e.d.xs⟩⟩], by omega, by go_num, Lib.hid (by simp [hlen.out]), Lib.hid (by rw [HSTEP.out, List.map_append, List.map_append, hfs.out]; rfl), HO3, Lib.hid (by rw [List.map_append, ← List.append_assoc]; exact HALL.out), HFIL, HX0, HX1, HBE⟩
      case measure => simp [intOf]; omega
    · have hkn : k = m := by omega
      subst hkn
      obtain ⟨B2, d2, rfl⟩ := own_formK hown.out
      obtain ⟨⟨l0, x00, x01, x02, x03⟩, fr0⟩ := hx0.out
      obtain ⟨⟨l1, x10, x11, x12, x13⟩, fr1⟩ := hx1.out
      have fr03 := fr0 3
      have fr10 := fr1 0
      have fr11 := fr1 1
      have fr12 := fr1 2
      have fr13 := fr1 3
      clear fr0 fr1
      go_wp2
      have hxx := (List.pairwise_append.1 hdat.out.apart).2.2
      refine bodyPost_ret (v := .agg #[.int .i64 room, .int .i64 fuse, .slice A1 es1.length c1, .slice B2 out.length d2]) (by simp [results, Try.results51, go_sem, x10, x11, x12, x13]) rfl ⟨A1, c1, B2, d2, es1, out, rfl, HF1.out, ?_, ?_, ?_⟩
      · rw [hfs.out, List.take_of_length_le (by have := HR.out.len; omega)]
      · have h2 : OwnD wr (w.heap.size + 1 + 1) A1 c1 B2 d2 es1 out := ⟨⟨hfil.out, hdat.out.left⟩, ⟨hown.out, hdat.out.right⟩, hxx⟩
        refine OwnD.mono (OwnD.lows h2 ?_) (by omega)
        exact Lows.set (Lows.set (Lows.set (Lows.set (Lows.set (Lows.refl _ _) (by simp <;> omega) _) (by simp <;> omega) _) (by simp <;> omega) _) (by simp <;> omega) _) (by simp <;> omega) _
      · exact Below.setCell (Below.setCell (Below.setCell (Below.setCell (Below.setCell hbel.out (by simp <;> omega) _) (by simp <;> omega) _) (by simp <;> omega) _) (by simp <;> omega) _) (by simp <;> omega) _
end Go.Proofs.Ytejibpajjoaldaa
namespace Go.Proofs.Ytejibpajjoaldaa
open Go.RowKit

/-- A new row of cells. -/
def RowRes (w : World) (t size n : Nat) (cs : List Value) (e : Ending) (w' : World) : Prop :=
  ∃ A c, e = .returned (.slice A n c) ∧ w'.ownsRow w.heap.size t size (.slice A n c) n cs ∧ Below w.heap.size w w'

set_option maxRecDepth 10000 in
theorem cloneF (A : Option Addr) (n c : Nat) (es : List Ent) (w : World) (hr : SlF w A n es) (hn : n ≤ 1048576) :
    Calls Try.prog 78 #[.slice A n c] w (RowRes w 87 2 n (es.flatMap Ent.cells)) := by
  obtain ⟨i0, hi, hz0, hz1, hz2⟩ := info_parts Try.infoFile
  have hone : ∀ u ∈ es.flatMap Ent.cells, u.oneCell' = true := fun u hu => by
    obtain ⟨e, _, he⟩ := List.mem_flatMap.1 hu
    exact e.cells_one u he
  have HONE := Lib.hid hone
  clear hone
  rcases A with _ | a
  · obtain rfl : n = 0 := by
      rcases Nat.eq_zero_or_pos n with h | h
      · exact h
      · obtain ⟨_, _, h, _⟩ := hr.row.lies h
        cases h
    obtain rfl : es = [] := List.eq_nil_of_length_eq_zero hr.len
    have e1 := fun w : World => Lib.run_eql_slice_nil (P := Try.prog) w 23 87 none 0 c 0 0 Try.underlying23
    go_enter Try.func78, Try.ntmps78
    go_wp2
    go_ret
    exact ⟨none, 0, rfl, World.ownsRow_nil _ _ _ _, Below.refl _ _⟩
  · have e1 := fun w : World => Lib.run_eql_slice_nil (P := Try.prog) w 23 87 (some a) n c 0 0 Try.underlying23
    go_enter Try.func78, Try.ntmps78
    go_wp2_with (at_builtin; refine wpList_append_any _ rfl (.tmp 5) (.tmp 6) _ rfl w.heap.size 87 i0 _ 2 40 Try.underlying23 hi hz0 hz1 hz2 rfl (by omega) (.slice (some ⟨w.heap.size, 0, none⟩) 0 0) 0 [] rfl (builtF_none w) w.heap.size (some a) n c (es.flatMap Ent.cells) rfl (hr.row.reads.alloc (Nat.le_refl _) _) HONE.out (by simp only [maxLen]; omega) (by omega) (by simp) ?_; intro v1 w1 hown1 hg1 hat1)
    obtain ⟨A1, c1, rfl⟩ := own_formK hown1
    go_ret
    exact ⟨A1, c1, by simp, by simpa using hown1, below_built hg1⟩

set_option maxRecDepth 10000 in
theorem cloneO (A : Option Addr) (n c : Nat) (es : List OpE) (w : World) (hr : SlO w A n es) (hn : n ≤ 1048576) :
    Calls Try.prog 79 #[.slice A n c] w (RowRes w 30 4 n (es.flatMap OpE.cells)) := by
  obtain ⟨i0, hi, hz0, hz1, hz2⟩ := info_parts Try.infoOp
  have hone : ∀ u ∈ es.flatMap OpE.cells, u.oneCell' = true := fun u hu => by
    obtain ⟨e, _, he⟩ := List.mem_flatMap.1 hu
    exact e.cells_one u he
  have HONE := Lib.hid hone
  clear hone
  rcases A with _ | a
  · obtain rfl : n = 0 := by
      rcases Nat.eq_zero_or_pos n with h | h
      · exact h
      · obtain ⟨_, _, h, _⟩ := hr.row.lies h
        cases h
    obtain rfl : es = [] := List.eq_nil_of_length_eq_zero hr.len
    have e1 := fun w : World => Lib.run_eql_slice_nil (P := Try.prog) w 24 30 none 0 c 0 0 Try.underlying24
    go_enter Try.func79, Try.ntmps79
    go_wp2
    go_ret
    exact ⟨none, 0, rfl, World.ownsRow_nil _ _ _ _, Below.refl _ _⟩
  · have e1 := fun w : World => Lib.run_eql_slice_nil (P := Try.prog) w 24 30 (some a) n c 0 0 Try.underlying24
    go_enter Try.func79, Try.ntmps79
    go_wp2_with (at_builtin; refine wpList_append_any _ rfl (.tmp 5) (.tmp 6) _ rfl w.heap.size 30 i0 _ 4 64 Try.underlying24 hi hz0 hz1 hz2 rfl (by omega) (.slice (some ⟨w.heap.size, 0, none⟩) 0 0) 0 [] rfl (builtO_none w) w.heap.size (some a) n c (es.flatMap OpE.cells) rfl (hr.row.reads.alloc (Nat.le_refl _) _) HONE.out (by simp only [maxLen]; omega) (by omega) (by simp) ?_; intro v1 w1 hown1 hg1 hat1)
    obtain ⟨A1, c1, rfl⟩ := own_formK hown1
    go_ret
    exact ⟨A1, c1, by simp, by simpa using hown1, below_built hg1⟩

/-- The data of one record laid anew. -/
theorem ownF_data {w : World} {lo g c n k : Nat} {made rest : List Ent} {e : Ent} (d : Dat) (h : w.ownsRow lo 87 2 (.slice (some ⟨g, 0, none⟩) n c) n ((made ++ e :: rest).flatMap Ent.cells)) (hm : made.length = k) :
    (w.setCell ⟨g, k * 2 + 1, none⟩ (.slice d.A d.n d.c)).ownsRow lo 87 2 (.slice (some ⟨g, 0, none⟩) n c) n (((made ++ [(⟨e.nm, d⟩ : Ent)]) ++ rest).flatMap Ent.cells) ∧
      w.grownBy (w.setCell ⟨g, k * 2 + 1, none⟩ (.slice d.A d.n d.c)) (some g) := by
  have h1 := h.stored (k * 2 + 1) (.slice d.A d.n d.c)
  have e1 := flat_set Ent.cells 2 Ent.cells_len (made ++ e :: rest) k 1 e ⟨e.nm, d⟩ (.slice d.A d.n d.c) (by simp [← hm]) (by omega) rfl
  have e3 : (made ++ e :: rest).set k ⟨e.nm, d⟩ = made ++ [⟨e.nm, d⟩] ++ rest := by
    rw [List.set_append_right _ _ (by omega), hm, Nat.sub_self, List.append_assoc]
    rfl
  rw [e3] at e1
  rw [e1] at h1
  exact h1
theorem ownO_data {w : World} {lo g c n k : Nat} {made rest : List OpE} {e : OpE} (d : Dat) (h : w.ownsRow lo 30 4 (.slice (some ⟨g, 0, none⟩) n c) n ((made ++ e :: rest).flatMap OpE.cells)) (hm : made.length = k) :
    (w.setCell ⟨g, k * 4 + 3, none⟩ (.slice d.A d.n d.c)).ownsRow lo 30 4 (.slice (some ⟨g, 0, none⟩) n c) n (((made ++ [(⟨e.kind, e.nm, e.to, d⟩ : OpE)]) ++ rest).flatMap OpE.cells) ∧
      w.grownBy (w.setCell ⟨g, k * 4 + 3, none⟩ (.slice d.A d.n d.c)) (some g) := by
  have h1 := h.stored (k * 4 + 3) (.slice d.A d.n d.c)
  have e1 := flat_set OpE.cells 4 OpE.cells_len (made ++ e :: rest) k 3 e ⟨e.kind, e.nm, e.to, d⟩ (.slice d.A d.n d.c) (by simp [← hm]) (by omega) rfl
  have e3 : (made ++ e :: rest).set k ⟨e.kind, e.nm, e.to, d⟩ = made ++ [⟨e.kind, e.nm, e.to, d⟩] ++ rest := by
    rw [List.set_append_right _ _ (by omega), hm, Nat.sub_self, List.append_assoc]
    rfl
  rw [e3] at e1
  rw [e1] at h1
  exact h1
theorem own_at {w : World} {lo t size n c : Nat} {A : Option Addr} {cs : List Value} (h : w.ownsRow lo t size (.slice A n c) n cs) (hn : 0 < n) : ∃ g, A = some ⟨g, 0, none⟩ := by
  obtain ⟨g, cap, hv, _⟩ := h.form hn
  injection hv with hv
  exact ⟨g, hv⟩

set_option maxRecDepth 10000 in
set_option maxHeartbeats 4000000 in
theorem implCopy (room fuse : Int) (A : Option Addr) (n c : Nat) (B : Option Addr) (m d : Nat) (es : List Ent) (os : List OpE) (w : World) (hf : SlF w A n es) (hn : n ≤ 1048576) (hs : ∀ e ∈ es, e.d.n ≤ 2097152)
    (ho : SlO w B m os) (hm : m ≤ 1048576) (ht : ∀ e ∈ os, e.d.n ≤ 2097152) :
    Calls Try.prog 44 #[.agg #[.int .i64 room, .int .i64 fuse, .slice A n c, .slice B m d]] w (MadeD w room fuse (es.map Ent.file) (os.map OpE.op)) := by
  have CF := Lib.hid (fun w' (hb : Below w.heap.size w w') => cloneF A n c es w' (hf.below hb) hn)
  have CO := Lib.hid (fun w' (hb : Below w.heap.size w w') => cloneO B m d os w' (ho.below hb) hm)
  have HF := Lib.hid hf
  have HS := Lib.hid hs
  have HR := Lib.hid ho
  have HT := Lib.hid ht
  clear hf hs ho ht
  go_enter Try.func44, Try.ntmps44
  go_wp2_with fail
  refine (CF.out _ (below_a2 _ _ _)).mono ?_
  rintro e w1 ⟨A1, c1, rfl, ho1, hb1⟩
  have hz : w.heap.size + 1 < w1.heap.size := by have := hb1.size; simp at this; omega
  have hz' : w.heap.size < w1.heap.size := by omega
  obtain ⟨⟨l0, x00, x01, x02, x03⟩, fr0⟩ := ((FBox.new w (.int .i64 room) (.int .i64 fuse) (.slice A n c) (.slice B m d) 26).alloc (.cells #[.int .i64 0, .int .i64 0, .slice none 0 0, .slice none 0 0] 26)).below hb1
  have fr02 := fr0 2
  have HB := Lib.hid hb1
  have HO := Lib.hid ho1
  clear hb1 ho1 fr0
  go_wp2
  clear l0 x00 x01 x02 x03 fr02
  have X0 : FBox (w1.setCell ⟨w.heap.size, 2, none⟩ (.slice A1 n c1)) w.heap.size (.int .i64 room) (.int .i64 fuse) (.slice A1 n c1) (.slice B m d) :=
    ((((FBox.new w (.int .i64 room) (.int .i64 fuse) (.slice A n c) (.slice B m d) 26).alloc _).below HB.out).set2 _)
  have X1 : FBox (w1.setCell ⟨w.heap.size, 2, none⟩ (.slice A1 n c1)) (w.heap.size + 1) (.int .i64 0) (.int .i64 0) (.slice none 0 0) (.slice none 0 0) := by
    have h := FBox.new (w.alloc (.cells #[.int .i64 room, .int .i64 fuse, .slice A n c, .slice B m d] 26)) (.int .i64 0) (.int .i64 0) (.slice none 0 0) (.slice none 0 0) 26
    rw [World.size_alloc] at h
    exact ((h.below HB.out).far (by simp) _)
  have X2 : Below w.heap.size w (w1.setCell ⟨w.heap.size, 2, none⟩ (.slice A1 n c1)) :=
    (((below_a2 w _ _).trans (HB.out.mono (by simp; omega))).setCell (Nat.le_refl _) _)
  have X3 : (w1.setCell ⟨w.heap.size, 2, none⟩ (.slice A1 n c1)).ownsRow (w.heap.size + 1 + 1) 87 2 (.slice A1 n c1) n (es.flatMap Ent.cells) := by
    have h := HO.out
    rw [World.size_alloc, World.size_alloc] at h
    exact own_set_low h (by simp; omega) _
  generalize w1.setCell ⟨w.heap.size, 2, none⟩ (.slice A1 n c1) = W0 at X0 X1 X2 X3 ⊢
  have Y0 := Lib.hid X0
  have Y1 := Lib.hid X1
  have Y2 := Lib.hid X2
  have Y3 := Lib.hid X3
  clear X0 X1 X2 X3 HB HO
  go_loopw [12] (fun i wr => ∃ (k : Nat) (made : List Ent), k ≤ n ∧ i = .int .i64 k ∧ Hid (made.length = k) ∧ Hid (made.map Ent.file = (es.take k).map Ent.file) ∧ Hid (wr.ownsRow (w.heap.size + 1 + 1) 87 2 (.slice A1 n c1) n ((made ++ es.drop k).flatMap Ent.cells)) ∧ Hid (OwnB wr (w.heap.size + 1 + 1) (made.map Ent.d)) ∧ Hid (FBox wr w.heap.size (.int .i64 room) (.int .i64 fuse) (.slice A1 n c1) (.slice B m d)) ∧ Hid (FBox wr (w.heap.size + 1) (.int .i64 0) (.int .i64 0) (.slice none 0 0) (.slice none 0 0)) ∧ Hid (Below w.heap.size w wr)) (fun i _ => n - (intOf i).toNat)
  case atStart => exact ⟨0, [], Nat.zero_le _, rfl, Lib.hid rfl, Lib.hid (by simp), Lib.hid (by simpa using Y3.out), Lib.hid OwnB.nil, Y0, Y1, Y2⟩
  case round =>
    clear Y0 Y1 Y2 Y3
    obtain ⟨k, made, hk, rfl, hlen, hfs, hown, hdat, hx0, hx1, hbel⟩ := hrel
    have hle0 : w.heap.size + 1 < wr.heap.size := hx1.out.box.lt
    by_cases hlt : k < n
    · obtain ⟨b, off, e, hA, hbw, he, hok, c0, c1'⟩ := HF.out.at_ hlt
      have hdrop := drop_at he.out
      have hrow := hown.out
      rw [hdrop] at hrow
      obtain ⟨g, hg⟩ := own_at hrow (by omega)
      subst hg
      have HROW := Lib.hid hrow
      have hgl : w.heap.size + 1 + 1 ≤ g ∧ g < wr.heap.size := hrow.lt g rfl
      have hen := HS.out e (List.mem_of_getElem? he.out)
      have HOK := Lib.hid (hok.out.below hbel.out)
      have HRS := Lib.hid (hok.out.rd.small)
      have HSTEP := Lib.hid (take_step es k e he.out)
      have CC := Lib.hid (fun W (h : Below wr.heap.size wr W) => clone_any e.d.A e.d.n e.d.c e.d.xs W (HOK.out.below h).rd hen)
      have q1 : wr.cell? ⟨g, k * 2 + 1, none⟩ = some (.slice e.d.A e.d.n e.d.c) := by
        rw [hrow.cellAt (k * 2 + 1) (by omega)]
        exact flat_get Ent.cells 2 Ent.cells_len _ k 1 e (by simp [← hlen.out]) (by omega)
      obtain ⟨⟨l0, x00, x01, x02, x03⟩, fr0⟩ := hx0.out
      clear c0 c1' hok he hdrop hrow fr0 hA
      go_wp2
      go_region_with (first
          | (go_at_call 48; ((with_reducible refine (CC.out _ (by first | exact Below.refl _ _ | exact (Below.refl _ _).drew)).mono ?_)); rintro e1 w5 ⟨A5, c5, rfl, ho5, hb5⟩; have HB5 : Hid (Below wr.heap.size wr w5) := Lib.hid (by first | exact hb5 | exact ⟨hb5.os, hb5.tape, hb5.output, hb5.size, hb5.block⟩); have HO5 : Hid (w5.ownsRow wr.heap.size 5 1 (.slice A5 e.d.n c5) e.d.n (vb e.d.xs)) := Lib.hid (by exact ho5); have q5 : w5.cell? ⟨g, k * 2 + 1, none⟩ = some (.slice e.d.A e.d.n e.d.c) := (by rw [HB5.out.cell (p := ⟨g, k * 2 + 1, none⟩) hgl.2]; exact q1); have f5 : w5.frozen? ⟨g, k * 2 + 1, none⟩ = false := (own_below HROW.out HB5.out).frozenAt (k * 2 + 1); have x5 : w5.cell? ⟨w.heap.size, 2, none⟩ = some (.slice (some ⟨g, 0, none⟩) n c1) := (HB5.out.cell (p := ⟨w.heap.size, 2, none⟩) (by show w.heap.size < _; omega)).trans x02))
      all_goals
        have hl5 := ownF_data (⟨A5, e.d.n, c5, e.d.xs⟩ : Dat) (own_below HROW.out HB5.out) hlen.out
        have hone : OwnB w5 wr.heap.size [⟨A5, e.d.n, c5, e.d.xs⟩] := OwnB.one (d := ⟨A5, e.d.n, c5, e.d.xs⟩) HO5.out HRS.out
        have hall := (hdat.out.below HB5.out).append (hone.mono (by omega)) (apart_of_time hdat.out (Nat.le_refl _) hone (Nat.le_refl _))
        obtain ⟨cur, hcur⟩ := own_block (own_below HROW.out HB5.out)
        have HL5 := Lib.hid hl5.1
        have HALL := Lib.hid (hall.kept hl5.2 (hall.far hcur (by decide)))
        have HX0 := Lib.hid ((hx0.out.below HB5.out).far (p := ⟨g, k * 2 + 1, none⟩) (by show w.heap.size ≠ g; omega) (.slice A5 e.d.n c5))
        have HX1 := Lib.hid ((hx1.out.below HB5.out).far (p := ⟨g, k * 2 + 1, none⟩) (by show w.heap.size + 1 ≠ g; omega) (.slice A5 e.d.n c5))
        have HBE := Lib.hid ((below_chain hbel.out HB5.out).setCell (p := ⟨g, k * 2 + 1, none⟩) (by show w.heap.size ≤ g; omega) (.slice A5 e.d.n c5))
        clear hl5 hone hall hcur ho5 hb5 q5 f5 x5
        go_wp2
        go_roundw
        case rel => exact ⟨k + 1, made ++ [⟨e.nm, ⟨A5, e.d.n, c5, e.d.xs⟩⟩], by omega, by go_num, Lib.hid (by simp [hlen.out]), Lib.hid (by rw [HSTEP.out, List.map_append, List.map_append, hfs.out]; rfl), HL5, Lib.hid (by rw [List.map_append]; exact HALL.out), HX0, HX1, HBE⟩
        case measure => simp [intOf]; omega
    · have hkn : k = n := by omega
      subst hkn
      have HFS : Hid (made.map Ent.file = es.map Ent.file) := Lib.hid (by rw [hfs.out, List.take_of_length_le (by have := HF.out.len; omega)])
      have HROWF : Hid (wr.ownsRow (w.heap.size + 1 + 1) 87 2 (.slice A1 k c1) k (made.flatMap Ent.cells)) := Lib.hid (by
        have h := hown.out
        rw [List.drop_eq_nil_of_le (by have := HF.out.len; omega), List.append_nil] at h
        exact h)
      clear hfs hown
      obtain ⟨⟨l0, x00, x01, x02, x03⟩, fr0⟩ := hx0.out
      clear fr0
      go_wp2_with fail
      refine (CO.out _ hbel.out).mono ?_
      rintro e w2 ⟨B1, d1, rfl, ho2, hb2⟩
      have HB2 := Lib.hid hb2
      have HO2 := Lib.hid (own_mono ho2 (show w.heap.size + 1 + 1 ≤ wr.heap.size by omega))
      have hx0b := hx0.out.below hb2
      clear l0 x00 x01 x02 x03 ho2 hb2
      obtain ⟨⟨l0, x00, x01, x02, x03⟩, fr0⟩ := hx0b
      have fr03 := fr0 3
      clear fr0
      go_wp2
      clear l0 x00 x01 x02 x03 fr03
      have Z0 := Lib.hid ((hx0.out.below HB2.out).set3 (.slice B1 m d1))
      have Z1 := Lib.hid ((hx1.out.below HB2.out).far (p := ⟨w.heap.size, 3, none⟩) (by show w.heap.size + 1 ≠ w.heap.size; omega) (.slice B1 m d1))
      have Z2 := Lib.hid ((below_chain hbel.out HB2.out).setCell (p := ⟨w.heap.size, 3, none⟩) (Nat.le_refl _) (.slice B1 m d1))
      have Z3 := Lib.hid (own_set_low HO2.out (p := ⟨w.heap.size, 3, none⟩) (by show w.heap.size < _; omega) (.slice B1 m d1))
      have Z4 := Lib.hid (own_set_low (own_below HROWF.out HB2.out) (p := ⟨w.heap.size, 3, none⟩) (by show w.heap.size < _; omega) (.slice B1 m d1))
      have Z5 := Lib.hid ((hdat.out.below HB2.out).keep (w' := w2.setCell ⟨w.heap.size, 3, none⟩ (.slice B1 m d1)) (fun q hq _ => Below.heap_setCell _ _ _ _ (by show q ≠ w.heap.size; omega)))
      generalize w2.setCell ⟨w.heap.size, 3, none⟩ (.slice B1 m d1) = W1 at Z0 Z1 Z2 Z3 Z4 Z5 ⊢
      clear hx0 hx1 HB2 HO2 HROWF hdat hbel hlen
      go_loopw [35] (fun i wr => ∃ (q : Nat) (out : List OpE), q ≤ m ∧ i = .int .i64 q ∧ Hid (out.length = q) ∧ Hid (out.map OpE.op = (os.take q).map OpE.op) ∧ Hid (wr.ownsRow (w.heap.size + 1 + 1) 30 4 (.slice B1 m d1) m ((out ++ os.drop q).flatMap OpE.cells)) ∧ Hid (OwnB wr (w.heap.size + 1 + 1) (made.map Ent.d ++ out.map OpE.d)) ∧ Hid (wr.ownsRow (w.heap.size + 1 + 1) 87 2 (.slice A1 k c1) k (made.flatMap Ent.cells)) ∧ Hid (FBox wr w.heap.size (.int .i64 room) (.int .i64 fuse) (.slice A1 k c1) (.slice B1 m d1)) ∧ Hid (FBox wr (w.heap.size + 1) (.int .i64 0) (.int .i64 0) (.slice none 0 0) (.slice none 0 0)) ∧ Hid (Below w.heap.size w wr)) (fun i _ => m - (intOf i).toNat)
      case atStart => exact ⟨0, [], Nat.zero_le _, rfl, Lib.hid rfl, Lib.hid (by simp), Lib.hid (by simpa using Z3.out), Lib.hid (by simpa using Z5.out), Z4, Z0, Z1, Z2⟩
      case round =>
        clear Z0 Z1 Z2 Z3 Z4 Z5
        obtain ⟨q, out, hq, rfl, hlen, hfs, hown, hdat, hfil, hx0, hx1, hbel⟩ := hrel
        have hle1 : w.heap.size + 1 < wr.heap.size := hx1.out.box.lt
        by_cases hltq : q < m
        · obtain ⟨b, off, e, hA, hbw, he, hok, c0, c1', c2, c3⟩ := HR.out.at_ hltq
          have hdrop := drop_at he.out
          have hrow := hown.out
          rw [hdrop] at hrow
          obtain ⟨g, hg⟩ := own_at hrow (by omega)
          subst hg
          have HROW := Lib.hid hrow
          have hgl : w.heap.size + 1 + 1 ≤ g ∧ g < wr.heap.size := hrow.lt g rfl
          have hen := HT.out e (List.mem_of_getElem? he.out)
          have HOK := Lib.hid (hok.out.below hbel.out)
          have HRS := Lib.hid (hok.out.rd.small)
          have HSTEP := Lib.hid (take_step os q e he.out)
          have CC := Lib.hid (fun W (h : Below wr.heap.size wr W) => clone_any e.d.A e.d.n e.d.c e.d.xs W (HOK.out.below h).rd hen)
          have q1 : wr.cell? ⟨g, q * 4 + 3, none⟩ = some (.slice e.d.A e.d.n e.d.c) := by
            rw [hrow.cellAt (q * 4 + 3) (by omega)]
            exact flat_get OpE.cells 4 OpE.cells_len _ q 3 e (by simp [← hlen.out]) (by omega)
          obtain ⟨⟨l0, x00, x01, x02, x03⟩, fr0⟩ := hx0.out
          clear c0 c1' c2 c3 hok he hdrop hrow fr0 hA
          go_wp2
          go_region_with (first
            | (go_at_call 48; ((with_reducible refine (CC.out _ (by first | exact Below.refl _ _ | exact (Below.refl _ _).drew)).mono ?_)); rintro e1 w5 ⟨A5, c5, rfl, ho5, hb5⟩; have HB5 : Hid (Below wr.heap.size wr w5) := Lib.hid (by first | exact hb5 | exact ⟨hb5.os, hb5.tape, hb5.output, hb5.size, hb5.block⟩); have HO5 : Hid (w5.ownsRow wr.heap.size 5 1 (.slice A5 e.d.n c5) e.d.n (vb e.d.xs)) := Lib.hid (by exact ho5); have q5 : w5.cell? ⟨g, q * 4 + 3, none⟩ = some (.slice e.d.A e.d.n e.d.c) := (by rw [HB5.out.cell (p := ⟨g, q * 4 + 3, none⟩) hgl.2]; exact q1); have f5 : w5.frozen? ⟨g, q * 4 + 3, none⟩ = false := (own_below HROW.out HB5.out).frozenAt (q * 4 + 3); have x5 : w5.cell? ⟨w.heap.size, 3, none⟩ = some (.slice (some ⟨g, 0, none⟩) m d1) := (HB5.out.cell (p := ⟨w.heap.size, 3, none⟩) (by show w.heap.size < _; omega)).trans x03))
          all_goals
            have hl5 := ownO_data (⟨A5, e.d.n, c5, e.d.xs⟩ : Dat) (own_below HROW.out HB5.out) hlen.out
            have hone : OwnB w5 wr.heap.size [⟨A5, e.d.n, c5, e.d.xs⟩] := OwnB.one (d := ⟨A5, e.d.n, c5, e.d.xs⟩) HO5.out HRS.out
            have hall := (hdat.out.below HB5.out).append (hone.mono (by omega)) (apart_of_time hdat.out (Nat.le_refl _) hone (Nat.le_refl _))
            obtain ⟨cur, hcur⟩ := own_block (own_below HROW.out HB5.out)
            have HL5 := Lib.hid hl5.1
            have HALL := Lib.hid (hall.kept hl5.2 (hall.far hcur (by decide)))
            have HFIL := Lib.hid (own_grow (own_below hfil.out HB5.out) (own_below HROW.out HB5.out) (by decide) (by exact hl5.2))
            have HX0 := Lib.hid ((hx0.out.below HB5.out).far (p := ⟨g, q * 4 + 3, none⟩) (by show w.heap.size ≠ g; omega) (.slice A5 e.d.n c5))
            have HX1 := Lib.hid ((hx1.out.below HB5.out).far (p := ⟨g, q * 4 + 3, none⟩) (by show w.heap.size + 1 ≠ g; omega) (.slice A5 e.d.n c5))
            have HBE := Lib.hid ((below_chain hbel.out HB5.out).setCell (p := ⟨g, q * 4 + 3, none⟩) (by show w.heap.size ≤ g; omega) (.slice A5 e.d.n c5))
            clear hl5 hone hall hcur ho5 hb5 q5 f5 x5
            go_wp2
            go_roundw
            case rel => exact ⟨q + 1, out ++ [⟨e.kind, e.nm, e.to, ⟨A5, e.d.n, c5, e.d.xs⟩⟩], by omega, by go_num, Lib.hid (by simp [hlen.out]), Lib.hid (by rw [HSTEP.out, List.map_append, List.map_append, hfs.out]; rfl), HL5, Lib.hid (by rw [List.map_append, ← List.append_assoc]; exact HALL.out), HFIL, HX0, HX1, HBE⟩
            case measure => simp [intOf]; omega
        · have hkq : q = m := by omega
          subst hkq
          have hxx := (List.pairwise_append.1 hdat.out.apart).2.2
          have HXX := Lib.hid hxx
          have HOS : Hid (out.map OpE.op = os.map OpE.op) := Lib.hid (by rw [hfs.out, List.take_of_length_le (by have := HR.out.len; omega)])
          have hown2 := hown.out
          rw [List.drop_eq_nil_of_le (by have := HR.out.len; omega), List.append_nil] at hown2
          have HOWN2 := Lib.hid hown2
          have hml : made.length = k := by have := congrArg List.length HFS.out; simp only [List.length_map] at this; rw [this]; exact HF.out.len
          have HML := Lib.hid hml
          clear hxx hfs hown hown2 hml
          obtain ⟨⟨l0, x00, x01, x02, x03⟩, fr0⟩ := hx0.out
          obtain ⟨⟨l1, x10, x11, x12, x13⟩, fr1⟩ := hx1.out
          have fr10 := fr1 0
          have fr11 := fr1 1
          have fr12 := fr1 2
          have fr13 := fr1 3
          clear fr0 fr1
          go_wp2
          refine bodyPost_ret (v := .agg #[.int .i64 room, .int .i64 fuse, .slice A1 k c1, .slice B1 q d1]) (by simp [results, Try.results44, go_sem, x10, x11, x12, x13]) rfl ⟨A1, c1, B1, d1, made, out, ?_, HFS.out, HOS.out, ?_, ?_⟩
          · rw [HML.out, hlen.out]
          · have h2 : OwnD wr (w.heap.size + 1 + 1) A1 c1 B1 d1 made out := ⟨⟨by rw [HML.out]; exact hfil.out, hdat.out.left⟩, ⟨by rw [hlen.out]; exact HOWN2.out, hdat.out.right⟩, HXX.out⟩
            refine OwnD.mono (OwnD.lows h2 ?_) (by omega)
            exact Lows.set (Lows.set (Lows.set (Lows.set (Lows.refl _ _) (by simp <;> omega) _) (by simp <;> omega) _) (by simp <;> omega) _) (by simp <;> omega) _
          · exact Below.setCell (Below.setCell (Below.setCell (Below.setCell hbel.out (by simp <;> omega) _) (by simp <;> omega) _) (by simp <;> omega) _) (by simp <;> omega) _
end Go.Proofs.Ytejibpajjoaldaa
namespace Go.Proofs.Ytejibpajjoaldaa
open Go.RowKit

/-- A disk's box, and the box of a result behind it. -/
theorem FBox.second (w : World) (o : Obj) (v0 v1 v2 v3 : Value) (t : TypeId) : FBox ((w.alloc o).alloc (.cells #[v0, v1, v2, v3] t)) (w.heap.size + 1) v0 v1 v2 v3 := by
  have h := FBox.new (w.alloc o) v0 v1 v2 v3 t
  rw [World.size_alloc] at h
  exact h
theorem OwnD.out4 {w : World} {lo c d b : Nat} {A B : Option Addr} {es : List Ent} {os : List OpE} (h : OwnD w lo A c B d es os) (hb : b < lo) (u0 u1 u2 u3 : Value) :
    OwnD ((((w.setCell ⟨b, 0, none⟩ u0).setCell ⟨b, 1, none⟩ u1).setCell ⟨b, 2, none⟩ u2).setCell ⟨b, 3, none⟩ u3) lo A c B d es os :=
  h.lows (Lows.set (Lows.set (Lows.set (Lows.set (Lows.refl _ _) hb _) hb _) hb _) hb _)
theorem below_out4 {w W : World} {b : Nat} (h : Below w.heap.size w W) (hb : w.heap.size ≤ b) (u0 u1 u2 u3 : Value) :
    Below w.heap.size w ((((W.setCell ⟨b, 0, none⟩ u0).setCell ⟨b, 1, none⟩ u1).setCell ⟨b, 2, none⟩ u2).setCell ⟨b, 3, none⟩ u3) :=
  Below.setCell (Below.setCell (Below.setCell (Below.setCell h hb _) hb _) hb _) hb _
theorem seeD_own {w W : World} {lo c d : Nat} {A B : Option Addr} {es : List Ent} {os : List OpE} {r : DD} {x : Value} (h : OwnD W lo A c B d es os) (h1 : es.map Ent.file = r.fs) (h2 : os.map OpE.op = r.ops) (hb : Below w.heap.size w W) :
    SeeD w r x (.returned (.tuple #[.agg #[.int .i64 r.room, .int .i64 r.fuse, .slice A es.length c, .slice B os.length d], x])) W :=
  ⟨A, es.length, c, B, os.length, d, es, os, rfl, h1, h2, h.f.sl, h.o.sl, hb⟩
theorem resD_own {w W : World} {lo c d : Nat} {A B : Option Addr} {es : List Ent} {os : List OpE} {r : DD} {x : Value} (h : OwnD W lo A c B d es os) (hl : w.heap.size ≤ lo) (h1 : es.map Ent.file = r.fs) (h2 : os.map OpE.op = r.ops) (hb : Below w.heap.size w W) :
    ResD w r x (.returned (.tuple #[.agg #[.int .i64 r.room, .int .i64 r.fuse, .slice A es.length c, .slice B os.length d], x])) W :=
  ⟨A, es.length, c, B, os.length, d, es, os, rfl, h1, h2, rfl, rfl, h.mono hl, hb⟩

def DD.with (r : DD) (room fuse : Int) : DD := ⟨room, fuse, r.fs, r.ops⟩
theorem DD.with_room (r : DD) (room fuse : Int) : (r.with room fuse).room = room := rfl
theorem DD.with_weight (r : DD) (room fuse : Int) : (r.with room fuse).weight = r.weight := rfl
def setOk (r : DD) (room fuse : Int) : Bool := r.ok && (r.with room fuse).ok
def setD (r : DD) (room fuse : Int) : DD := if setOk r room fuse then r.with room fuse else DD.zero
theorem bulk_wt {r : DD} (h : r.weight ≤ 1048576) (ho : r.ops.length ≤ 60) : r.bulk ≤ 2097152 := by
  unfold DD.weight at h
  have h1 := bulkF_wt r.fs
  have h2 := bulkO_wt r.ops
  unfold DD.bulk
  omega
theorem zero_bulk : DD.zero.bulk ≤ 2097152 := by simp [DD.bulk, DD.zero, bulkF, bulkO]
theorem setD_bulk {r : DD} (h : r.weight ≤ 1048576) (room fuse : Int) : (setD r room fuse).bulk ≤ 2097152 := by
  unfold setD
  split
  · rename_i hs
    unfold setOk at hs
    simp only [Bool.and_eq_true] at hs
    exact bulk_wt (r := r.with room fuse) h (DD.ok_lim hs.2).2.2.2.2.2
  · exact zero_bulk
theorem Meant.with {w : World} {r : DD} {A : Option Addr} {n : Nat} {B : Option Addr} {m : Nat} {es : List Ent} {os : List OpE} (h : Meant w r A n B m es os) (room fuse : Int) : Meant w (r.with room fuse) A n B m es os := ⟨h.f, h.o, h.hf, h.ho, h.wt⟩
/-- The model's and the program's copy of a disk that the law has measured. -/
theorem Meant.specCopy {w : World} {r : DD} {A : Option Addr} {n : Nat} {B : Option Addr} {m : Nat} {es : List Ent} {os : List OpE} (h : Meant w r A n B m es os) (c d : Nat) :
    Calls Try.prog 51 #[.agg #[.int .i64 r.room, .int .i64 r.fuse, .slice A n c, .slice B m d]] w (MadeD w r.room r.fuse r.fs r.ops) := by
  have M := h.modest
  have F := h.fits
  have := Go.Proofs.Ytejibpajjoaldaa.specCopy r.room r.fuse A n c B m d es os w h.f M.fl F.fe h.o M.ol F.oe
  rw [h.hf, h.ho] at this
  exact this
theorem Meant.implCopy {w : World} {r : DD} {A : Option Addr} {n : Nat} {B : Option Addr} {m : Nat} {es : List Ent} {os : List OpE} (h : Meant w r A n B m es os) (c d : Nat) :
    Calls Try.prog 44 #[.agg #[.int .i64 r.room, .int .i64 r.fuse, .slice A n c, .slice B m d]] w (MadeD w r.room r.fuse r.fs r.ops) := by
  have M := h.modest
  have F := h.fits
  have := Go.Proofs.Ytejibpajjoaldaa.implCopy r.room r.fuse A n c B m d es os w h.f M.fl F.fe h.o M.ol F.oe
  rw [h.hf, h.ho] at this
  exact this
theorem Meant.specOk {w : World} {r : DD} {A : Option Addr} {n : Nat} {B : Option Addr} {m : Nat} {es : List Ent} {os : List OpE} (h : Meant w r A n B m es os) (c d : Nat) :
    Calls Try.prog 49 #[.agg #[.int .i64 r.room, .int .i64 r.fuse, .slice A n c, .slice B m d]] w (Tells w r.ok) := Go.Proofs.Ytejibpajjoaldaa.specOk r A n c B m d es os w h.f h.o h.hf h.ho h.wt
theorem Meant.implOk {w : World} {r : DD} {A : Option Addr} {n : Nat} {B : Option Addr} {m : Nat} {es : List Ent} {os : List OpE} (h : Meant w r A n B m es os) (c d : Nat) :
    Calls Try.prog 12 #[.agg #[.int .i64 r.room, .int .i64 r.fuse, .slice A n c, .slice B m d]] w (Tells w r.ok) := Go.Proofs.Ytejibpajjoaldaa.implOkD r A n c B m d es os w h.f h.o h.hf h.ho h.wt

end Go.Proofs.Ytejibpajjoaldaa
namespace Go.Proofs.Ytejibpajjoaldaa
open Go.RowKit

theorem mark_x {W : World} {r : DD} {A B : Option Addr} {n c m d lo b : Nat} {es : List Ent} {os : List OpE} (F : Fits es os) (g : GBox W lo b r A n c B m d es os) :
    Calls Try.prog 25 #[.agg #[.int .i64 r.room, .int .i64 r.fuse, .slice A n c, .slice B m d], .int .i64 1] W (MarkedD W lo 1 A c B d es os) := by
  have := markDisk_any r.room r.fuse A c B d lo 1 es os W g.own F.fl F.fe F.ol F.oe (by omega) F.top
  rw [g.fl, g.ol] at this
  exact this
end Go.Proofs.Ytejibpajjoaldaa
namespace Go.Proofs.Ytejibpajjoaldaa
open Go.RowKit

/-- What was there at the world anc is there still. -/
structure Kept (P : World → Prop) (anc W : World) : Prop where
  was : P anc
  keep : Below anc.heap.size anc W
theorem Kept.below {P : World → Prop} {anc W W' : World} (h : Kept P anc W) (hb : Below W.heap.size W W') : Kept P anc W' := ⟨h.was, below_chain h.keep hb⟩
theorem Kept.only {P : World → Prop} {anc W W' : World} {S : Nat → Prop} (h : Kept P anc W) (ho : Only S W W') (hs : ∀ k, S k → anc.heap.size ≤ k) : Kept P anc W' := ⟨h.was, h.keep.trans (ho.toBelow h.keep.size hs)⟩
theorem Kept.first {P : World → Prop} {W : World} (h : P W) : Kept P W W := ⟨h, Below.refl _ _⟩

/-! ### files -/
def RdF (w : World) (A : Option Addr) (n : Nat) (fs : List FileD) : Prop := ∃ es, es.map Ent.file = fs ∧ SlF w A n es
def OwF (w : World) (lo : Nat) (A : Option Addr) (n c : Nat) (fs : List FileD) : Prop := ∃ es, es.map Ent.file = fs ∧ es.length = n ∧ OwnF w lo A c es
def MkF (w : World) (lo : Nat) (A : Option Addr) (n c K : Nat) : Prop := ∃ es, K = endEs 1 es ∧ es.length = n ∧ n ≤ 2097152 ∧ (∀ e ∈ es, e.d.n ≤ 2097152) ∧ K ≤ 4194304 ∧ OwnF w lo A c (markEs 1 es)
section
variable {w w' : World} {A A' : Option Addr} {n n' c c' lo K : Nat} {fs : List FileD} {S : Nat → Prop}
theorem RdF.below (h : RdF w A n fs) (hb : Below w.heap.size w w') : RdF w' A n fs := by
  obtain ⟨es, h1, h2⟩ := h
  exact ⟨es, h1, h2.below hb⟩
theorem OwF.below (h : OwF w lo A n c fs) (hb : Below w.heap.size w w') : OwF w' lo A n c fs := by
  obtain ⟨es, h1, h2, h3⟩ := h
  exact ⟨es, h1, h2, h3.below hb⟩
theorem OwF.only (h : OwF w lo A n c fs) (ho : Only S w w') (hs : ∀ k, S k → k < lo) : OwF w' lo A n c fs := by
  obtain ⟨es, h1, h2, h3⟩ := h
  exact ⟨es, h1, h2, h3.keep (fun k hk hk2 => ho.block k hk2 (fun hh => by have := hs k hh; omega))⟩
theorem OwF.rd (h : OwF w lo A n c fs) : RdF w A n fs := by
  obtain ⟨es, h1, rfl, h3⟩ := h
  exact ⟨es, h1, h3.sl⟩
theorem MkF.below (h : MkF w lo A n c K) (hb : Below w.heap.size w w') : MkF w' lo A n c K := by
  obtain ⟨es, h1, h2, h3, h4, h5, h6⟩ := h
  exact ⟨es, h1, h2, h3, h4, h5, h6.below hb⟩
theorem bulkF_fit {es : List Ent} (h : ∀ e ∈ es, e.d.Ok w) (hb : bulkF (es.map Ent.file) ≤ 2097152) : es.length ≤ 2097152 ∧ (∀ e ∈ es, e.d.n ≤ 2097152) ∧ endEs 1 es ≤ 4194304 := by
  refine ⟨?_, fun e he => ?_, ?_⟩
  · have := bulkF_len es; omega
  · have := bulkF_each he (h e he); omega
  · rw [endEs_bulk es _ h]; omega
theorem eq_F (hb : bulkF fs ≤ 2097152) (h : RdF w A n fs) (k : RdF w A' n' fs) :
    Calls Try.prog 28 #[.slice A n c, .slice A' n' c'] w (Tells w true) := by
  obtain ⟨es, h1, h2⟩ := h
  obtain ⟨es', k1, k2⟩ := k
  have hl : n = n' := by rw [← h2.len, ← k2.len]; have := congrArg List.length (h1.trans k1.symm); simpa using this
  subst hl
  have F := bulkF_fit (w := w) (es := es) h2.each (by rw [h1]; exact hb)
  exact eqFiles_any A A' n c c' es es' w h2 k2 (h1.trans k1.symm) (by rw [← h2.len]; exact F.1) F.2.1
def MarkF (w : World) (lo : Nat) (A : Option Addr) (n c : Nat) (e : Ending) (w' : World) : Prop := ∃ K : Nat, e = .returned (.int .i64 (K : Int)) ∧ MkF w' lo A n c K ∧ Only (fun k => lo ≤ k) w w'
theorem mark_F (hb : bulkF fs ≤ 2097152) (h : OwF w lo A n c fs) : Calls Try.prog 29 #[.slice A n c, .int .i64 1] w (MarkF w lo A n c) := by
  obtain ⟨es, h1, rfl, h3⟩ := h
  have F := bulkF_fit (w := w) (es := es) h3.sl.each (by rw [h1]; exact hb)
  refine (markFs_any A es.length c lo 1 es w h3.row h3.dat rfl F.1 F.2.1 (by omega) F.2.2).mono ?_
  rintro e w' ⟨rfl, hr, hd, ho⟩
  refine ⟨endEs 1 es, rfl, ⟨es, rfl, rfl, F.1, F.2.1, F.2.2, ⟨by rw [markEs_length]; exact hr, hd⟩⟩, ho.mono (fun k hk => (OwnD.inF h3 k hk).1)⟩
theorem held_F (h : MkF w lo A n c K) : Calls Try.prog 30 #[.slice A n c, .int .i64 1] w (Nums w (K : Int)) := by
  obtain ⟨es, rfl, rfl, h3, h4, h5, h6⟩ := h
  have hs := h6.sl
  rw [markEs_length] at hs
  exact heldFs_any A es.length c 1 es w hs h3 h4 (by omega) h5
end

/-! ### bytes -/
def RdY (w : World) (A : Option Addr) (n : Nat) (xs : List Nat) : Prop := Rd w A n xs
def OwY (w : World) (lo : Nat) (A : Option Addr) (n c : Nat) (xs : List Nat) : Prop := w.ownsRow lo 5 1 (.slice A n c) n (vb xs) ∧ ∀ x ∈ xs, x < 256
def MkY (w : World) (lo : Nat) (A : Option Addr) (n c K : Nat) : Prop := K = 1 + n ∧ n ≤ 2097152 ∧ w.ownsRow lo 5 1 (.slice A n c) n (vb (marksK 1 n))
section
variable {w w' : World} {A A' : Option Addr} {n n' c c' lo K : Nat} {xs : List Nat} {S : Nat → Prop}
theorem RdY.below (h : RdY w A n xs) (hb : Below w.heap.size w w') : RdY w' A n xs := Rd.below h hb
theorem OwY.below (h : OwY w lo A n c xs) (hb : Below w.heap.size w w') : OwY w' lo A n c xs := ⟨own_below h.1 hb, h.2⟩
theorem OwY.only (h : OwY w lo A n c xs) (ho : Only S w w') (hs : ∀ k, S k → k < lo) : OwY w' lo A n c xs :=
  ⟨own_keep h.1 (fun k hk hk2 => ho.block k hk2 (fun hh => by have := hs k hh; omega)), h.2⟩
theorem OwY.rd (h : OwY w lo A n c xs) : RdY w A n xs := Rd.of_own h.1 h.2
theorem MkY.below (h : MkY w lo A n c K) (hb : Below w.heap.size w w') : MkY w' lo A n c K := ⟨h.1, h.2.1, own_below h.2.2 hb⟩
theorem eq_Y (hb : xs.length ≤ 2097152) (h : RdY w A n xs) (k : RdY w A' n' xs) :
    Calls Try.prog 33 #[.slice A n c, .slice A' n' c'] w (Tells w true) := by
  have hl : n = n' := by rw [← h.len, ← k.len]
  subst hl
  refine (same_any A A' n c c' xs w h k (by rw [← h.len]; exact hb)).mono ?_
  rintro e w' ⟨rfl, m, rfl⟩
  exact ⟨rfl, below_drewN (Below.refl _ _) m⟩
def MarkY (w : World) (lo : Nat) (A : Option Addr) (n c : Nat) (e : Ending) (w' : World) : Prop := ∃ K : Nat, e = .returned (.int .i64 (K : Int)) ∧ MkY w' lo A n c K ∧ Only (fun k => lo ≤ k) w w'
theorem mark_Y (hb : xs.length ≤ 2097152) (h : OwY w lo A n c xs) : Calls Try.prog 34 #[.slice A n c, .int .i64 1] w (MarkY w lo A n c) := by
  have hl : xs.length = n := h.rd.len
  refine (markB_any A n c lo 1 xs w h.1 (by omega) (by omega)).mono ?_
  rintro e w' ⟨rfl, hr, hg⟩
  exact ⟨1 + n, rfl, ⟨rfl, by omega, hr⟩, (Only.refl _ w).grown hg (fun i hi => (h.1.lt i hi).1)⟩
theorem held_Y (h : MkY w lo A n c K) : Calls Try.prog 35 #[.slice A n c, .int .i64 1] w (Nums w (K : Int)) := by
  obtain ⟨rfl, h2, h3⟩ := h
  refine (heldB_any A n c 1 w (Rd.of_own h3 (marksK_small 1 n)) h2 (by omega)).mono ?_
  rintro e w' ⟨rfl, rfl⟩
  exact ⟨rfl, Below.refl _ _⟩
end
/-- What a function gives that gives bytes and a value more: its own, or what reads. -/
def ResY (w : World) (xs : List Nat) (x : Value) (e : Ending) (w' : World) : Prop := ∃ A n c, e = .returned (.tuple #[.slice A n c, x]) ∧ OwY w' w.heap.size A n c xs ∧ Below w.heap.size w w'
def SeeY (w : World) (xs : List Nat) (x : Value) (e : Ending) (w' : World) : Prop := ∃ A n c, e = .returned (.tuple #[.slice A n c, x]) ∧ RdY w' A n xs ∧ Below w.heap.size w w'
end Go.Proofs.Ytejibpajjoaldaa
namespace Go.Proofs.Ytejibpajjoaldaa
open Go.RowKit

theorem own_capK {w : World} {base e size n c : Nat} {A : Option Addr} {xs : List Value} (h : w.ownsRow base e size (.slice A n c) n xs) : n ≤ c := by
  rcases h.2 with ⟨h', h0⟩ | ⟨g, cap, _, h', _, _, hc, _⟩
  · injection h' with _ h2 _; omega
  · injection h' with _ h2 h3; omega

set_option maxRecDepth 10000 in
set_option maxHeartbeats 4000000 in
theorem specSeenN (r : DD) (q : Nat) (A : Option Addr) (n c : Nat) (B : Option Addr) (m d : Nat) (es : List Ent) (os : List OpE) (w : World) (h : Meant w r A n B m es os) (hc : m ≤ d) (hq : q ≤ m) (hok : r.ok = true) :
    Calls Try.prog 57 #[.agg #[.int .i64 r.room, .int .i64 r.fuse, .slice A n c, .slice B m d], .int .i64 (q : Int)] w (SeesF w (r.after q)) := by
  have hml := h.modest.ol
  have MO := Lib.hid h.modest
  have HLIM := Lib.hid (DD.ok_lim hok)
  have CF := Lib.hid (fun W (hb : Below w.heap.size w W) => specFiles A n c es W (h.f.below hb) MO.out.fl h.fits.fe)
  have HO := Lib.hid h.o
  have HG := Lib.hid (DD.after_good hok)
  have HN := Lib.hid (fun k o hk => DD.after_next (k := k) (o := o) hok hk)
  have HOP := Lib.hid h.ho
  have HZ : Hid (es.map Ent.file = r.after 0) := Lib.hid h.hf
  clear h hok
  go_enter Try.func57, Try.ntmps57
  go_wp2_with fail
  refine (CF.out _ (below_a1 _ _)).mono ?_
  rintro e w1 ⟨A1, c1, es1, rfl, hf1, ho1, hb1⟩
  have HB1 := Lib.hid (below_chain (below_a1 w _) hb1)
  have K1 := Lib.hid ((FBox.new w (.int .i64 r.room) (.int .i64 r.fuse) (.slice A n c) (.slice B m d) 26).below hb1)
  have HS1 := Lib.hid ho1.sl
  have HF1 : Hid (es1.map Ent.file = r.after 0) := Lib.hid (hf1.trans HZ.out)
  clear hb1 hf1 ho1
  obtain ⟨⟨l0, x00, x01, x02, x03⟩, fr0⟩ := K1.out
  go_wp2
  clear l0 x00 x01 x02 x03 fr0
  have hl1 : es1.length ≤ 12 := by have h1 := congrArg List.length HF1.out; rw [List.length_map] at h1; have := (HG.out 0).1; omega
  go_loopw [5, 16] (fun v i wr => ∃ (k : Nat) (A2 : Option Addr) (c2 : Nat) (es2 : List Ent), k ≤ q ∧ i = .int .i64 k ∧ v = .slice A2 es2.length c2 ∧ es2.length ≤ 12 ∧ Hid (es2.map Ent.file = r.after k) ∧ Hid (SlF wr A2 es2.length es2) ∧ Hid (Below w.heap.size w wr)) (fun _ i _ => q - (intOf i).toNat)
  case atStart => exact ⟨0, A1, c1, es1, Nat.zero_le _, rfl, rfl, hl1, HF1, HS1, HB1⟩
  case round =>
    clear HF1 HS1 HB1 K1 hl1
    obtain ⟨k, A2, c2, es2, hk, rfl, rfl, hl2, hfs, hsl, hbel⟩ := hrel
    by_cases hlt : k < q
    · have hkm : k < m := by omega
      obtain ⟨b, off, e, hB, hbw, he, hok, c0, c1', c2', c3⟩ := HO.out.at_ hkm
      subst hB
      have c0 := (hbel.out.cell (p := ⟨b, off + k * 4, none⟩) hbw).trans c0
      have c1' := (hbel.out.cell (p := ⟨b, off + k * 4 + 1, none⟩) hbw).trans c1'
      have c2' := (hbel.out.cell (p := ⟨b, off + k * 4 + 2, none⟩) hbw).trans c2'
      have c3 := (hbel.out.cell (p := ⟨b, off + k * 4 + 3, none⟩) hbw).trans c3
      have hoe : r.ops[k]? = some e.op := by rw [← HOP.out, List.getElem?_map, he.out]; rfl
      obtain ⟨hop, hfit, haft⟩ := HN.out k e.op hoe
      have hbd := opOkF_bounds hop
      have hxl : e.d.xs.length = e.d.n := hok.out.rd.len
      have hen : e.d.n ≤ 1048576 := by
        have h8 : e.op.2.2.2.length ≤ 200000 := hbd.2
        have h9 : e.op.2.2.2.length = e.d.n := hxl
        omega
      have hes2 : ∀ x ∈ es2, x.d.n ≤ 1048576 := fun x hx => by
        have h1 := bulkE hx (hsl.out.each x hx)
        rw [hfs.out] at h1
        have h2 := (HG.out k).2
        have := HLIM.out
        omega
      rw [← hfs.out] at hfit haft
      have CM := Lib.hid (specMake A2 es2.length c2 es2 e (wr.alloc (.cells #[.int .i64 e.kind, .string e.nm, .string e.to, .slice e.d.A e.d.n e.d.c] 30)) (hsl.out.below (below_a1 wr _)) (by omega) ((hok.out.below hbel.out).below (below_a1 wr _)) (fun hh => fitsF_has hfit hh) hes2 hen)
      have HAFT := Lib.hid haft
      have HB := Lib.hid (hbel.out.alloc hbel.out.size (.cells #[.int .i64 e.kind, .string e.nm, .string e.to, .slice e.d.A e.d.n e.d.c] 30))
      clear hok he hoe hop hfit haft hbd hxl hes2
      go_wp2_with fail
      refine CM.out.mono ?_
      rintro e1 w3 ⟨A3, c3', es3, rfl, hf3, hs3, hb3⟩
      have hl3 : es3.length ≤ 12 := by
        have h1 := congrArg List.length (hf3.trans HAFT.out.symm)
        rw [List.length_map] at h1
        have := (HG.out (k + 1)).1
        omega
      have HF3 := Lib.hid (hf3.trans HAFT.out.symm)
      have HS3 := Lib.hid hs3
      have HB3 := Lib.hid (below_chain HB.out hb3)
      clear hf3 hs3 hb3
      go_wp2
      go_roundw
      case rel => exact ⟨k + 1, A3, c3', es3, by omega, by go_num, rfl, hl3, HF3, HS3, HB3⟩
      case measure => simp [intOf]; omega
    · have hkq : k = q := by omega
      subst hkq
      go_wp2
      go_ret
      exact ⟨A2, c2, es2, rfl, hfs.out, hsl.out, hbel.out⟩

set_option maxRecDepth 10000 in
set_option maxHeartbeats 4000000 in
theorem specSeen (r : DD) (A : Option Addr) (n c : Nat) (B : Option Addr) (m d : Nat) (es : List Ent) (os : List OpE) (w : World) (h : Meant w r A n B m es os) (hc : m ≤ d) :
    Calls Try.prog 16 #[.agg #[.int .i64 r.room, .int .i64 r.fuse, .slice A n c, .slice B m d]] w (SeesF w r.seen) := by
  have C1 := Lib.hid (fun W (hb : Below w.heap.size w W) => (h.below hb).specOk c d)
  have C2 := Lib.hid (fun W (hb : Below w.heap.size w W) (hok : r.ok = true) => specSeenN r m A n c B m d es os W (h.below hb) hc (Nat.le_refl _) hok)
  have HM : Hid (r.ops.length = m) := Lib.hid (by rw [← h.ho, List.length_map]; exact h.o.len)
  have MO := h.modest
  have hml := MO.ol
  clear h MO
  cases hr : r.ok with
  | false =>
    rw [hr] at C1
    have HS := Lib.hid (DD.no_seen hr).2
    clear C2 hr
    go_enter Try.func16, Try.ntmps16
    go_wp2_with fail
    refine (C1.out _ (below_a1 _ _)).mono ?_
    rintro e w1 ⟨rfl, hb1⟩
    go_wp2
    go_ret
    rw [HS.out]
    exact ⟨none, 0, [], rfl, rfl, SlF.nil, below_chain (below_a1 w _) hb1⟩
  | true =>
    rw [hr] at C1
    have HS := Lib.hid (DD.seen_after hr)
    have C3 := Lib.hid (fun W hb => C2.out W hb hr)
    rw [HM.out] at HS
    clear C2 hr
    go_enter Try.func16, Try.ntmps16
    go_wp2_with fail
    refine (C1.out _ (below_a1 _ _)).mono ?_
    rintro e w1 ⟨rfl, hb1⟩
    obtain ⟨⟨l0, x00, x01, x02, x03⟩, fr0⟩ := (FBox.new w (.int .i64 r.room) (.int .i64 r.fuse) (.slice A n c) (.slice B m d) 26).below hb1
    have HB1 := Lib.hid (below_chain (below_a1 w _) hb1)
    clear fr0 hb1
    go_wp2_with fail
    refine (C3.out _ HB1.out).mono ?_
    rintro e w2 ⟨A2, c2, es2, rfl, hf2, hs2, hb2⟩
    go_wp2
    go_ret
    exact ⟨A2, c2, es2, rfl, by rw [hf2, HS.out], hs2, below_chain HB1.out hb2⟩
end Go.Proofs.Ytejibpajjoaldaa
