/- The contracts of the model's functions that copy files and a whole disk: new memory, the same data. -/
import Derived.Test.YtfcomnpoehpgiaaSpecMake
import Derived.Test.YtfcomnpoehpgiaaClone
namespace Go.Proofs.Ytfcomnpoehpgiaa
open Go.RowKit

/-- Slices of bytes of the call's own are kept where a row of another kind grows. -/
theorem OwnB.grow {w w' : World} {lo lo' e size n : Nat} {l : List Dat} {v : Value} {xs : List Value} (h : OwnB w lo l) (hv : w.ownsRow lo' e size v n xs) (hne : e ≠ 5) (hg : w.grownBy w' v.ownBlock) : OwnB w' lo l := by
  rcases hv.2 with ⟨rfl, _⟩ | ⟨g, cap, cur, rfl, _, hcell, _⟩
  · exact h.kept hg (fun d _ => by cases d.v.ownBlock <;> simp [Value.ownBlock])
  · exact h.kept hg (h.far hcell hne)
theorem Dat.v_eq (A : Option Addr) (n c : Nat) (xs : List Nat) : (⟨A, n, c, xs⟩ : Dat).v = .slice A n c := rfl

set_option maxRecDepth 10000 in
set_option maxHeartbeats 2000000 in
theorem specFiles (A : Option Addr) (n c : Nat) (es : List Ent) (w : World) (hr : SlF w A n es) (hn : n ≤ 1048576) (hs : ∀ e ∈ es, e.d.n ≤ 2097152) :
    Calls Try.prog 94 #[.slice A n c] w (MadeFs w (es.map Ent.file)) := by
  obtain ⟨i0, hi, hz0, hz1, hz2⟩ := info_parts Try.infoFile
  obtain ⟨j0, hj, hy0, hy1, hy2⟩ := info_parts Try.infoByte
  have HR := Lib.hid hr
  have HS := Lib.hid hs
  clear hr hs
  go_enter Try.func94, Try.ntmps94
  go_wp2
  go_loopw [3, 9] (fun v i wr => ∃ (k : Nat) (out : List Ent), k ≤ n ∧ i = .int .i64 k ∧ Hid (out.length = k) ∧ Hid (out.map Ent.file = (es.take k).map Ent.file) ∧ Hid (wr.ownsRow w.heap.size 93 2 v out.length (out.flatMap Ent.cells)) ∧ Hid (OwnB wr w.heap.size (out.map Ent.d)) ∧ Hid (Below w.heap.size w wr)) (fun _ i _ => n - (intOf i).toNat)
  case atStart => exact ⟨0, [], Nat.zero_le _, rfl, Lib.hid rfl, Lib.hid (by simp), Lib.hid (builtF_none w), Lib.hid OwnB.nil, Lib.hid (below_a1 _ _)⟩
  case round =>
    obtain ⟨k, out, hk, rfl, hlen, hfs, hown, hdat, hbel⟩ := hrel
    by_cases hlt : k < n
    · obtain ⟨b, off, e, hA, hbw, he, hok, c0, c1⟩ := HR.out.at_ hlt
      subst hA
      have c0 := (hbel.out.cell (p := ⟨b, off + k * 2, none⟩) hbw).trans c0
      have c1 := (hbel.out.cell (p := ⟨b, off + k * 2 + 1, none⟩) hbw).trans c1
      have hen := HS.out e (List.mem_of_getElem? he.out)
      have hol : out.length ≤ k := by rw [hlen.out]; exact Nat.le_refl _
      have HOK := Lib.hid (hok.out.below hbel.out)
      have HRS := Lib.hid (hok.out.rd.small)
      have HSTEP := Lib.hid (take_step es k e he.out)
      clear hok he
      go_wp2
      have BX := Lib.hid (below_a1 wr (.cells #[.string e.nm, .slice e.d.A e.d.n e.d.c] 93))
      have q0 : (wr.alloc (.cells #[.string e.nm, .slice e.d.A e.d.n e.d.c] 93)).cell? ⟨wr.heap.size, 0, none⟩ = some (.string e.nm) := by simp
      have q1 : (wr.alloc (.cells #[.string e.nm, .slice e.d.A e.d.n e.d.c] 93)).cell? ⟨wr.heap.size, 1, none⟩ = some (.slice e.d.A e.d.n e.d.c) := by simp
      have hlt0 : wr.heap.size < (wr.alloc (.cells #[.string e.nm, .slice e.d.A e.d.n e.d.c] 93)).heap.size := by simp
      generalize wr.alloc (.cells #[.string e.nm, .slice e.d.A e.d.n e.d.c] 93) = wq at BX q0 q1 hlt0 ⊢
      have HBQ := Lib.hid (below_chain hbel.out BX.out)
      have hle0 : w.heap.size ≤ wr.heap.size := hbel.out.size
      have HOQ := Lib.hid (own_below hown.out BX.out)
      have HDQ := Lib.hid (hdat.out.below BX.out)
      clear c0 c1
      go_region_held3 (fun W => W.cell? ⟨wr.heap.size, 0, none⟩ = some (.string e.nm) ∧ W.cell? ⟨wr.heap.size, 1, none⟩ = some (.slice e.d.A e.d.n e.d.c))
        (first
          | go_keep
          | (exact ⟨(World.cell?_of_block (a := ⟨wr.heap.size, 0, none⟩) (hg2.block wr.heap.size (by simp; omega) (fun hh => by have := (hown.out.lt _ hh.symm).2; omega))).trans (by simp [*]), (World.cell?_of_block (a := ⟨wr.heap.size, 1, none⟩) (hg2.block wr.heap.size (by simp; omega) (fun hh => by have := (hown.out.lt _ hh.symm).2; omega))).trans (by simp [*])⟩)
          | (exact ⟨(World.cell?_of_block (a := ⟨wr.heap.size, 0, none⟩) (hg1.block wr.heap.size (by simp; omega) (fun hh => by simp [Value.ownBlock] at hh; omega))).trans (by simp [*]), (World.cell?_of_block (a := ⟨wr.heap.size, 1, none⟩) (hg1.block wr.heap.size (by simp; omega) (fun hh => by simp [Value.ownBlock] at hh; omega))).trans (by simp [*])⟩))
        (first
          | (refine step_append_any _ (by rfl) (.tmp 16) (.tmp 18) _ (by rfl) wq.heap.size 5 j0 _ 1 1 Try.underlying22 hj hy0 hy1 hy2 rfl (by omega) (.slice (some ⟨wq.heap.size, 0, none⟩) 0 0) 0 [] (by rfl) (built_none wq) wq.heap.size e.d.A e.d.n e.d.c (vb e.d.xs) (by rfl) ((HOK.out.below BX.out).rd.reads.alloc (Nat.le_refl _) _) (vb_oneCell _) (by simp only [maxLen]; omega) (by omega) (by simp) ?_; intro v1 w2 hown1 hg1 hat1; simp only [Nat.zero_add, List.nil_append] at hown1; obtain ⟨A2, c2, hv1⟩ := own_form hown1; subst hv1; have HB2 : Hid (Below wq.heap.size wq w2) := Lib.hid (by first | exact (below_a1 wq _).drew.grown hg1 (by simp) (fun k hk => by simp [Value.ownBlock] at hk; omega) | exact (below_a1 wq _).grown hg1 (by simp) (fun k hk => by simp [Value.ownBlock] at hk; omega)); have HO1 := Lib.hid hown1; have hs2 : wq.heap.size ≤ w2.heap.size := (by have := hg1.size; simp at this; omega))
          | (refine step_append_any _ (by rfl) (.tmp 13) (.tmp 21) _ (by rfl) w.heap.size 93 i0 _ 2 40 Try.underlying23 hi hz0 hz1 hz2 rfl (by omega) u3 out.length (out.flatMap Ent.cells) (by rfl) ((own_below HOQ.out HB2.out).alloc (.cells #[.string e.nm, .slice A2 e.d.n c2] 93)) (w2.heap.size + 1) (some ⟨w2.heap.size, 0, none⟩) 1 1 [.string e.nm, .slice A2 e.d.n c2] (by rfl) (two_reads w2 (.string e.nm) (.slice A2 e.d.n c2) 93 w2.heap.size rfl) (Ent.cells_one ⟨e.nm, ⟨A2, e.d.n, c2, e.d.xs⟩⟩) (by simp only [maxLen]; omega) (by omega) (by simp; omega) ?_; intro v2 w3 hown2 hg2 hat2))
      all_goals
        have hd2 : OwnB w2 w.heap.size (out.map Ent.d) := HDQ.out.below HB2.out
        have hone : OwnB w2 wq.heap.size [⟨A2, e.d.n, c2, e.d.xs⟩] := OwnB.one (d := ⟨A2, e.d.n, c2, e.d.xs⟩) HO1.out HRS.out
        have hall := hd2.append (hone.mono HBQ.out.size) (apart_of_time HDQ.out (Nat.le_refl _) hone (Nat.le_refl _))
        have hrow : (w2.alloc (.cells #[.string e.nm, .slice A2 e.d.n c2] 93)).ownsRow w.heap.size 93 2 u3 out.length (out.flatMap Ent.cells) := (own_below HOQ.out HB2.out).alloc _
        have hall2 := (hall.below (below_a1 w2 (.cells #[.string e.nm, .slice A2 e.d.n c2] 93))).grow hrow (by decide) hg2
        have HALL := Lib.hid hall2
        have hb3 : Below w.heap.size w w3 := (below_chain (below_chain HBQ.out HB2.out) (below_a1 w2 _)).grown hg2 (by simp; omega) (fun j hj => (HOQ.out.lt j hj).1)
        have HB3 := Lib.hid hb3
        have ho3 : w3.ownsRow w.heap.size 93 2 v2 (out ++ [(⟨e.nm, ⟨A2, e.d.n, c2, e.d.xs⟩⟩ : Ent)]).length ((out ++ [(⟨e.nm, ⟨A2, e.d.n, c2, e.d.xs⟩⟩ : Ent)]).flatMap Ent.cells) := by
          rw [flat_snoc, List.length_append]
          exact hown2
        have HO3 := Lib.hid ho3
        clear hd2 hone hall hrow hall2 hb3 ho3 hown2 hg2 hat2 hown1 hat1 hg1
        go_wp2
        go_roundw
        case rel => exact ⟨k + 1, out ++ [⟨e.nm, ⟨A2, e.d.n, c2, e.d.xs⟩⟩], by omega, by go_num, Lib.hid (by simp [hlen.out]), Lib.hid (by rw [HSTEP.out, List.map_append, List.map_append, hfs.out]; rfl), HO3, Lib.hid (by rw [List.map_append]; exact HALL.out), HB3⟩
        case measure => simp [intOf]; omega
    · have hkn : k = n := by omega
      subst hkn
      obtain ⟨A2, c2, rfl⟩ := own_formK hown.out
      go_wp2
      go_ret
      exact ⟨A2, c2, out, rfl, by rw [hfs.out, List.take_of_length_le (by have := HR.out.len; omega)], ⟨hown.out, hdat.out⟩, hbel.out⟩
end Go.Proofs.Ytfcomnpoehpgiaa
