/- The contract of the program's function that copies a whole disk: new memory, the same data. -/
import Derived.Test.YtfcomnpoehpgiaaSpecCopy
import Derived.Deep.RegionHeld3
namespace Go.Proofs.Ytfcomnpoehpgiaa
open Go.RowKit

/-- A new row of cells. -/
def RowRes (w : World) (t size n : Nat) (cs : List Value) (e : Ending) (w' : World) : Prop :=
  ∃ A c, e = .returned (.slice A n c) ∧ w'.ownsRow w.heap.size t size (.slice A n c) n cs ∧ Below w.heap.size w w'

set_option maxRecDepth 10000 in
theorem cloneF (A : Option Addr) (n c : Nat) (es : List Ent) (w : World) (hr : SlF w A n es) (hn : n ≤ 1048576) :
    Calls Try.prog 92 #[.slice A n c] w (RowRes w 93 2 n (es.flatMap Ent.cells)) := by
  obtain ⟨i0, hi, hz0, hz1, hz2⟩ := info_parts Try.infoFile
  have hone : ∀ u ∈ es.flatMap Ent.cells, u.oneCell' = true := fun u hu => by
    obtain ⟨e, _, he⟩ := List.mem_flatMap.1 hu
    exact e.cells_one u he
  have HONE := Lib.hid hone
  clear hone
  rcases A with _ | a
  · obtain rfl : n = 0 := by
      rcases Nat.eq_zero_or_pos n with h | h
      · exact h
      · obtain ⟨_, _, h, _⟩ := hr.row.lies h
        cases h
    obtain rfl : es = [] := List.eq_nil_of_length_eq_zero hr.len
    have e1 := fun w : World => Lib.run_eql_slice_nil (P := Try.prog) w 23 93 none 0 c 0 0 Try.underlying23
    go_enter Try.func92, Try.ntmps92
    go_wp2
    go_ret
    exact ⟨none, 0, rfl, World.ownsRow_nil _ _ _ _, Below.refl _ _⟩
  · have e1 := fun w : World => Lib.run_eql_slice_nil (P := Try.prog) w 23 93 (some a) n c 0 0 Try.underlying23
    go_enter Try.func92, Try.ntmps92
    go_wp2_with (at_builtin; refine wpList_append_any _ rfl (.tmp 5) (.tmp 6) _ rfl w.heap.size 93 i0 _ 2 40 Try.underlying23 hi hz0 hz1 hz2 rfl (by omega) (.slice (some ⟨w.heap.size, 0, none⟩) 0 0) 0 [] rfl (builtF_none w) w.heap.size (some a) n c (es.flatMap Ent.cells) rfl (hr.row.reads.alloc (Nat.le_refl _) _) HONE.out (by simp only [maxLen]; omega) (by omega) (by simp) ?_; intro v1 w1 hown1 hg1 hat1)
    obtain ⟨A1, c1, rfl⟩ := own_formK hown1
    go_ret
    exact ⟨A1, c1, by simp, by simpa using hown1, below_built hg1⟩

set_option maxRecDepth 10000 in
theorem cloneO (A : Option Addr) (n c : Nat) (es : List OpE) (w : World) (hr : SlO w A n es) (hn : n ≤ 1048576) :
    Calls Try.prog 93 #[.slice A n c] w (RowRes w 30 4 n (es.flatMap OpE.cells)) := by
  obtain ⟨i0, hi, hz0, hz1, hz2⟩ := info_parts Try.infoOp
  have hone : ∀ u ∈ es.flatMap OpE.cells, u.oneCell' = true := fun u hu => by
    obtain ⟨e, _, he⟩ := List.mem_flatMap.1 hu
    exact e.cells_one u he
  have HONE := Lib.hid hone
  clear hone
  rcases A with _ | a
  · obtain rfl : n = 0 := by
      rcases Nat.eq_zero_or_pos n with h | h
      · exact h
      · obtain ⟨_, _, h, _⟩ := hr.row.lies h
        cases h
    obtain rfl : es = [] := List.eq_nil_of_length_eq_zero hr.len
    have e1 := fun w : World => Lib.run_eql_slice_nil (P := Try.prog) w 24 30 none 0 c 0 0 Try.underlying24
    go_enter Try.func93, Try.ntmps93
    go_wp2
    go_ret
    exact ⟨none, 0, rfl, World.ownsRow_nil _ _ _ _, Below.refl _ _⟩
  · have e1 := fun w : World => Lib.run_eql_slice_nil (P := Try.prog) w 24 30 (some a) n c 0 0 Try.underlying24
    go_enter Try.func93, Try.ntmps93
    go_wp2_with (at_builtin; refine wpList_append_any _ rfl (.tmp 5) (.tmp 6) _ rfl w.heap.size 30 i0 _ 4 64 Try.underlying24 hi hz0 hz1 hz2 rfl (by omega) (.slice (some ⟨w.heap.size, 0, none⟩) 0 0) 0 [] rfl (builtO_none w) w.heap.size (some a) n c (es.flatMap OpE.cells) rfl (hr.row.reads.alloc (Nat.le_refl _) _) HONE.out (by simp only [maxLen]; omega) (by omega) (by simp) ?_; intro v1 w1 hown1 hg1 hat1)
    obtain ⟨A1, c1, rfl⟩ := own_formK hown1
    go_ret
    exact ⟨A1, c1, by simp, by simpa using hown1, below_built hg1⟩

/-- The data of one record laid anew. -/
theorem ownF_data {w : World} {lo g c n k : Nat} {made rest : List Ent} {e : Ent} (d : Dat) (h : w.ownsRow lo 93 2 (.slice (some ⟨g, 0, none⟩) n c) n ((made ++ e :: rest).flatMap Ent.cells)) (hm : made.length = k) :
    (w.setCell ⟨g, k * 2 + 1, none⟩ (.slice d.A d.n d.c)).ownsRow lo 93 2 (.slice (some ⟨g, 0, none⟩) n c) n (((made ++ [(⟨e.nm, d⟩ : Ent)]) ++ rest).flatMap Ent.cells) ∧
      w.grownBy (w.setCell ⟨g, k * 2 + 1, none⟩ (.slice d.A d.n d.c)) (some g) := by
  have h1 := h.stored (k * 2 + 1) (.slice d.A d.n d.c)
  have e1 := flat_set Ent.cells 2 Ent.cells_len (made ++ e :: rest) k 1 e ⟨e.nm, d⟩ (.slice d.A d.n d.c) (by simp [← hm]) (by omega) rfl
  have e3 : (made ++ e :: rest).set k ⟨e.nm, d⟩ = made ++ [⟨e.nm, d⟩] ++ rest := by
    rw [List.set_append_right _ _ (by omega), hm, Nat.sub_self, List.append_assoc]
    rfl
  rw [e3] at e1
  rw [e1] at h1
  exact h1
theorem ownO_data {w : World} {lo g c n k : Nat} {made rest : List OpE} {e : OpE} (d : Dat) (h : w.ownsRow lo 30 4 (.slice (some ⟨g, 0, none⟩) n c) n ((made ++ e :: rest).flatMap OpE.cells)) (hm : made.length = k) :
    (w.setCell ⟨g, k * 4 + 3, none⟩ (.slice d.A d.n d.c)).ownsRow lo 30 4 (.slice (some ⟨g, 0, none⟩) n c) n (((made ++ [(⟨e.kind, e.nm, e.to, d⟩ : OpE)]) ++ rest).flatMap OpE.cells) ∧
      w.grownBy (w.setCell ⟨g, k * 4 + 3, none⟩ (.slice d.A d.n d.c)) (some g) := by
  have h1 := h.stored (k * 4 + 3) (.slice d.A d.n d.c)
  have e1 := flat_set OpE.cells 4 OpE.cells_len (made ++ e :: rest) k 3 e ⟨e.kind, e.nm, e.to, d⟩ (.slice d.A d.n d.c) (by simp [← hm]) (by omega) rfl
  have e3 : (made ++ e :: rest).set k ⟨e.kind, e.nm, e.to, d⟩ = made ++ [⟨e.kind, e.nm, e.to, d⟩] ++ rest := by
    rw [List.set_append_right _ _ (by omega), hm, Nat.sub_self, List.append_assoc]
    rfl
  rw [e3] at e1
  rw [e1] at h1
  exact h1
theorem own_at {w : World} {lo t size n c : Nat} {A : Option Addr} {cs : List Value} (h : w.ownsRow lo t size (.slice A n c) n cs) (hn : 0 < n) : ∃ g, A = some ⟨g, 0, none⟩ := by
  obtain ⟨g, cap, hv, _⟩ := h.form hn
  injection hv with hv
  exact ⟨g, hv⟩

set_option maxRecDepth 10000 in
set_option maxHeartbeats 4000000 in
theorem implCopy (room fuse : Int) (A : Option Addr) (n c : Nat) (B : Option Addr) (m d : Nat) (es : List Ent) (os : List OpE) (w : World) (hf : SlF w A n es) (hn : n ≤ 1048576) (hs : ∀ e ∈ es, e.d.n ≤ 2097152)
    (ho : SlO w B m os) (hm : m ≤ 1048576) (ht : ∀ e ∈ os, e.d.n ≤ 2097152) :
    Calls Try.prog 61 #[.agg #[.int .i64 room, .int .i64 fuse, .slice A n c, .slice B m d]] w (MadeD w room fuse (es.map Ent.file) (os.map OpE.op)) := by
  have CF := Lib.hid (fun w' (hb : Below w.heap.size w w') => cloneF A n c es w' (hf.below hb) hn)
  have CO := Lib.hid (fun w' (hb : Below w.heap.size w w') => cloneO B m d os w' (ho.below hb) hm)
  have HF := Lib.hid hf
  have HS := Lib.hid hs
  have HR := Lib.hid ho
  have HT := Lib.hid ht
  clear hf hs ho ht
  go_enter Try.func61, Try.ntmps61
  go_wp2_with fail
  refine (CF.out _ (below_a2 _ _ _)).mono ?_
  rintro e w1 ⟨A1, c1, rfl, ho1, hb1⟩
  have hz : w.heap.size + 1 < w1.heap.size := by have := hb1.size; simp at this; omega
  have hz' : w.heap.size < w1.heap.size := by omega
  obtain ⟨⟨l0, x00, x01, x02, x03⟩, fr0⟩ := ((FBox.new w (.int .i64 room) (.int .i64 fuse) (.slice A n c) (.slice B m d) 26).alloc (.cells #[.int .i64 0, .int .i64 0, .slice none 0 0, .slice none 0 0] 26)).below hb1
  have fr02 := fr0 2
  have HB := Lib.hid hb1
  have HO := Lib.hid ho1
  clear hb1 ho1 fr0
  go_wp2
  clear l0 x00 x01 x02 x03 fr02
  have X0 : FBox (w1.setCell ⟨w.heap.size, 2, none⟩ (.slice A1 n c1)) w.heap.size (.int .i64 room) (.int .i64 fuse) (.slice A1 n c1) (.slice B m d) :=
    ((((FBox.new w (.int .i64 room) (.int .i64 fuse) (.slice A n c) (.slice B m d) 26).alloc _).below HB.out).set2 _)
  have X1 : FBox (w1.setCell ⟨w.heap.size, 2, none⟩ (.slice A1 n c1)) (w.heap.size + 1) (.int .i64 0) (.int .i64 0) (.slice none 0 0) (.slice none 0 0) := by
    have h := FBox.new (w.alloc (.cells #[.int .i64 room, .int .i64 fuse, .slice A n c, .slice B m d] 26)) (.int .i64 0) (.int .i64 0) (.slice none 0 0) (.slice none 0 0) 26
    rw [World.size_alloc] at h
    exact ((h.below HB.out).far (by simp) _)
  have X2 : Below w.heap.size w (w1.setCell ⟨w.heap.size, 2, none⟩ (.slice A1 n c1)) :=
    (((below_a2 w _ _).trans (HB.out.mono (by simp; omega))).setCell (Nat.le_refl _) _)
  have X3 : (w1.setCell ⟨w.heap.size, 2, none⟩ (.slice A1 n c1)).ownsRow (w.heap.size + 1 + 1) 93 2 (.slice A1 n c1) n (es.flatMap Ent.cells) := by
    have h := HO.out
    rw [World.size_alloc, World.size_alloc] at h
    exact own_set_low h (by simp; omega) _
  generalize w1.setCell ⟨w.heap.size, 2, none⟩ (.slice A1 n c1) = W0 at X0 X1 X2 X3 ⊢
  have Y0 := Lib.hid X0
  have Y1 := Lib.hid X1
  have Y2 := Lib.hid X2
  have Y3 := Lib.hid X3
  clear X0 X1 X2 X3 HB HO
  go_loopw [12] (fun i wr => ∃ (k : Nat) (made : List Ent), k ≤ n ∧ i = .int .i64 k ∧ Hid (made.length = k) ∧ Hid (made.map Ent.file = (es.take k).map Ent.file) ∧ Hid (wr.ownsRow (w.heap.size + 1 + 1) 93 2 (.slice A1 n c1) n ((made ++ es.drop k).flatMap Ent.cells)) ∧ Hid (OwnB wr (w.heap.size + 1 + 1) (made.map Ent.d)) ∧ Hid (FBox wr w.heap.size (.int .i64 room) (.int .i64 fuse) (.slice A1 n c1) (.slice B m d)) ∧ Hid (FBox wr (w.heap.size + 1) (.int .i64 0) (.int .i64 0) (.slice none 0 0) (.slice none 0 0)) ∧ Hid (Below w.heap.size w wr)) (fun i _ => n - (intOf i).toNat)
  case atStart => exact ⟨0, [], Nat.zero_le _, rfl, Lib.hid rfl, Lib.hid (by simp), Lib.hid (by simpa using Y3.out), Lib.hid OwnB.nil, Y0, Y1, Y2⟩
  case round =>
    clear Y0 Y1 Y2 Y3
    obtain ⟨k, made, hk, rfl, hlen, hfs, hown, hdat, hx0, hx1, hbel⟩ := hrel
    have hle0 : w.heap.size + 1 < wr.heap.size := hx1.out.box.lt
    by_cases hlt : k < n
    · obtain ⟨b, off, e, hA, hbw, he, hok, c0, c1'⟩ := HF.out.at_ hlt
      have hdrop := drop_at he.out
      have hrow := hown.out
      rw [hdrop] at hrow
      obtain ⟨g, hg⟩ := own_at hrow (by omega)
      subst hg
      have HROW := Lib.hid hrow
      have hgl : w.heap.size + 1 + 1 ≤ g ∧ g < wr.heap.size := hrow.lt g rfl
      have hen := HS.out e (List.mem_of_getElem? he.out)
      have HOK := Lib.hid (hok.out.below hbel.out)
      have HRS := Lib.hid (hok.out.rd.small)
      have HSTEP := Lib.hid (take_step es k e he.out)
      have CC := Lib.hid (fun W (h : Below wr.heap.size wr W) => clone_any e.d.A e.d.n e.d.c e.d.xs W (HOK.out.below h).rd hen)
      have q1 : wr.cell? ⟨g, k * 2 + 1, none⟩ = some (.slice e.d.A e.d.n e.d.c) := by
        rw [hrow.cellAt (k * 2 + 1) (by omega)]
        exact flat_get Ent.cells 2 Ent.cells_len _ k 1 e (by simp [← hlen.out]) (by omega)
      obtain ⟨⟨l0, x00, x01, x02, x03⟩, fr0⟩ := hx0.out
      clear c0 c1' hok he hdrop hrow fr0 hA
      go_wp2
      go_region_with (first
          | (go_at_call 65; ((with_reducible refine (CC.out _ (by first | exact Below.refl _ _ | exact (Below.refl _ _).drew)).mono ?_)); rintro e1 w5 ⟨A5, c5, rfl, ho5, hb5⟩; have HB5 : Hid (Below wr.heap.size wr w5) := Lib.hid (by first | exact hb5 | exact ⟨hb5.os, hb5.tape, hb5.output, hb5.size, hb5.block⟩); have HO5 : Hid (w5.ownsRow wr.heap.size 5 1 (.slice A5 e.d.n c5) e.d.n (vb e.d.xs)) := Lib.hid (by exact ho5); have q5 : w5.cell? ⟨g, k * 2 + 1, none⟩ = some (.slice e.d.A e.d.n e.d.c) := (by rw [HB5.out.cell (p := ⟨g, k * 2 + 1, none⟩) hgl.2]; exact q1); have f5 : w5.frozen? ⟨g, k * 2 + 1, none⟩ = false := (own_below HROW.out HB5.out).frozenAt (k * 2 + 1); have x5 : w5.cell? ⟨w.heap.size, 2, none⟩ = some (.slice (some ⟨g, 0, none⟩) n c1) := (HB5.out.cell (p := ⟨w.heap.size, 2, none⟩) (by show w.heap.size < _; omega)).trans x02))
      all_goals
        have hl5 := ownF_data (⟨A5, e.d.n, c5, e.d.xs⟩ : Dat) (own_below HROW.out HB5.out) hlen.out
        have hone : OwnB w5 wr.heap.size [⟨A5, e.d.n, c5, e.d.xs⟩] := OwnB.one (d := ⟨A5, e.d.n, c5, e.d.xs⟩) HO5.out HRS.out
        have hall := (hdat.out.below HB5.out).append (hone.mono (by omega)) (apart_of_time hdat.out (Nat.le_refl _) hone (Nat.le_refl _))
        obtain ⟨cur, hcur⟩ := own_block (own_below HROW.out HB5.out)
        have HL5 := Lib.hid hl5.1
        have HALL := Lib.hid (hall.kept hl5.2 (hall.far hcur (by decide)))
        have HX0 := Lib.hid ((hx0.out.below HB5.out).far (p := ⟨g, k * 2 + 1, none⟩) (by show w.heap.size ≠ g; omega) (.slice A5 e.d.n c5))
        have HX1 := Lib.hid ((hx1.out.below HB5.out).far (p := ⟨g, k * 2 + 1, none⟩) (by show w.heap.size + 1 ≠ g; omega) (.slice A5 e.d.n c5))
        have HBE := Lib.hid ((below_chain hbel.out HB5.out).setCell (p := ⟨g, k * 2 + 1, none⟩) (by show w.heap.size ≤ g; omega) (.slice A5 e.d.n c5))
        clear hl5 hone hall hcur ho5 hb5 q5 f5 x5
        go_wp2
        go_roundw
        case rel => exact ⟨k + 1, made ++ [⟨e.nm, ⟨A5, e.d.n, c5, e.d.xs⟩⟩], by omega, by go_num, Lib.hid (by simp [hlen.out]), Lib.hid (by rw [HSTEP.out, List.map_append, List.map_append, hfs.out]; rfl), HL5, Lib.hid (by rw [List.map_append]; exact HALL.out), HX0, HX1, HBE⟩
        case measure => simp [intOf]; omega
    · have hkn : k = n := by omega
      subst hkn
      have HFS : Hid (made.map Ent.file = es.map Ent.file) := Lib.hid (by rw [hfs.out, List.take_of_length_le (by have := HF.out.len; omega)])
      have HROWF : Hid (wr.ownsRow (w.heap.size + 1 + 1) 93 2 (.slice A1 k c1) k (made.flatMap Ent.cells)) := Lib.hid (by
        have h := hown.out
        rw [List.drop_eq_nil_of_le (by have := HF.out.len; omega), List.append_nil] at h
        exact h)
      clear hfs hown
      obtain ⟨⟨l0, x00, x01, x02, x03⟩, fr0⟩ := hx0.out
      clear fr0
      go_wp2_with fail
      refine (CO.out _ hbel.out).mono ?_
      rintro e w2 ⟨B1, d1, rfl, ho2, hb2⟩
      have HB2 := Lib.hid hb2
      have HO2 := Lib.hid (own_mono ho2 (show w.heap.size + 1 + 1 ≤ wr.heap.size by omega))
      have hx0b := hx0.out.below hb2
      clear l0 x00 x01 x02 x03 ho2 hb2
      obtain ⟨⟨l0, x00, x01, x02, x03⟩, fr0⟩ := hx0b
      have fr03 := fr0 3
      clear fr0
      go_wp2
      clear l0 x00 x01 x02 x03 fr03
      have Z0 := Lib.hid ((hx0.out.below HB2.out).set3 (.slice B1 m d1))
      have Z1 := Lib.hid ((hx1.out.below HB2.out).far (p := ⟨w.heap.size, 3, none⟩) (by show w.heap.size + 1 ≠ w.heap.size; omega) (.slice B1 m d1))
      have Z2 := Lib.hid ((below_chain hbel.out HB2.out).setCell (p := ⟨w.heap.size, 3, none⟩) (Nat.le_refl _) (.slice B1 m d1))
      have Z3 := Lib.hid (own_set_low HO2.out (p := ⟨w.heap.size, 3, none⟩) (by show w.heap.size < _; omega) (.slice B1 m d1))
      have Z4 := Lib.hid (own_set_low (own_below HROWF.out HB2.out) (p := ⟨w.heap.size, 3, none⟩) (by show w.heap.size < _; omega) (.slice B1 m d1))
      have Z5 := Lib.hid ((hdat.out.below HB2.out).keep (w' := w2.setCell ⟨w.heap.size, 3, none⟩ (.slice B1 m d1)) (fun q hq _ => Below.heap_setCell _ _ _ _ (by show q ≠ w.heap.size; omega)))
      generalize w2.setCell ⟨w.heap.size, 3, none⟩ (.slice B1 m d1) = W1 at Z0 Z1 Z2 Z3 Z4 Z5 ⊢
      clear hx0 hx1 HB2 HO2 HROWF hdat hbel hlen
      go_loopw [35] (fun i wr => ∃ (q : Nat) (out : List OpE), q ≤ m ∧ i = .int .i64 q ∧ Hid (out.length = q) ∧ Hid (out.map OpE.op = (os.take q).map OpE.op) ∧ Hid (wr.ownsRow (w.heap.size + 1 + 1) 30 4 (.slice B1 m d1) m ((out ++ os.drop q).flatMap OpE.cells)) ∧ Hid (OwnB wr (w.heap.size + 1 + 1) (made.map Ent.d ++ out.map OpE.d)) ∧ Hid (wr.ownsRow (w.heap.size + 1 + 1) 93 2 (.slice A1 k c1) k (made.flatMap Ent.cells)) ∧ Hid (FBox wr w.heap.size (.int .i64 room) (.int .i64 fuse) (.slice A1 k c1) (.slice B1 m d1)) ∧ Hid (FBox wr (w.heap.size + 1) (.int .i64 0) (.int .i64 0) (.slice none 0 0) (.slice none 0 0)) ∧ Hid (Below w.heap.size w wr)) (fun i _ => m - (intOf i).toNat)
      case atStart => exact ⟨0, [], Nat.zero_le _, rfl, Lib.hid rfl, Lib.hid (by simp), Lib.hid (by simpa using Z3.out), Lib.hid (by simpa using Z5.out), Z4, Z0, Z1, Z2⟩
      case round =>
        clear Z0 Z1 Z2 Z3 Z4 Z5
        obtain ⟨q, out, hq, rfl, hlen, hfs, hown, hdat, hfil, hx0, hx1, hbel⟩ := hrel
        have hle1 : w.heap.size + 1 < wr.heap.size := hx1.out.box.lt
        by_cases hltq : q < m
        · obtain ⟨b, off, e, hA, hbw, he, hok, c0, c1', c2, c3⟩ := HR.out.at_ hltq
          have hdrop := drop_at he.out
          have hrow := hown.out
          rw [hdrop] at hrow
          obtain ⟨g, hg⟩ := own_at hrow (by omega)
          subst hg
          have HROW := Lib.hid hrow
          have hgl : w.heap.size + 1 + 1 ≤ g ∧ g < wr.heap.size := hrow.lt g rfl
          have hen := HT.out e (List.mem_of_getElem? he.out)
          have HOK := Lib.hid (hok.out.below hbel.out)
          have HRS := Lib.hid (hok.out.rd.small)
          have HSTEP := Lib.hid (take_step os q e he.out)
          have CC := Lib.hid (fun W (h : Below wr.heap.size wr W) => clone_any e.d.A e.d.n e.d.c e.d.xs W (HOK.out.below h).rd hen)
          have q1 : wr.cell? ⟨g, q * 4 + 3, none⟩ = some (.slice e.d.A e.d.n e.d.c) := by
            rw [hrow.cellAt (q * 4 + 3) (by omega)]
            exact flat_get OpE.cells 4 OpE.cells_len _ q 3 e (by simp [← hlen.out]) (by omega)
          obtain ⟨⟨l0, x00, x01, x02, x03⟩, fr0⟩ := hx0.out
          clear c0 c1' c2 c3 hok he hdrop hrow fr0 hA
          go_wp2
          go_region_with (first
            | (go_at_call 65; ((with_reducible refine (CC.out _ (by first | exact Below.refl _ _ | exact (Below.refl _ _).drew)).mono ?_)); rintro e1 w5 ⟨A5, c5, rfl, ho5, hb5⟩; have HB5 : Hid (Below wr.heap.size wr w5) := Lib.hid (by first | exact hb5 | exact ⟨hb5.os, hb5.tape, hb5.output, hb5.size, hb5.block⟩); have HO5 : Hid (w5.ownsRow wr.heap.size 5 1 (.slice A5 e.d.n c5) e.d.n (vb e.d.xs)) := Lib.hid (by exact ho5); have q5 : w5.cell? ⟨g, q * 4 + 3, none⟩ = some (.slice e.d.A e.d.n e.d.c) := (by rw [HB5.out.cell (p := ⟨g, q * 4 + 3, none⟩) hgl.2]; exact q1); have f5 : w5.frozen? ⟨g, q * 4 + 3, none⟩ = false := (own_below HROW.out HB5.out).frozenAt (q * 4 + 3); have x5 : w5.cell? ⟨w.heap.size, 3, none⟩ = some (.slice (some ⟨g, 0, none⟩) m d1) := (HB5.out.cell (p := ⟨w.heap.size, 3, none⟩) (by show w.heap.size < _; omega)).trans x03))
          all_goals
            have hl5 := ownO_data (⟨A5, e.d.n, c5, e.d.xs⟩ : Dat) (own_below HROW.out HB5.out) hlen.out
            have hone : OwnB w5 wr.heap.size [⟨A5, e.d.n, c5, e.d.xs⟩] := OwnB.one (d := ⟨A5, e.d.n, c5, e.d.xs⟩) HO5.out HRS.out
            have hall := (hdat.out.below HB5.out).append (hone.mono (by omega)) (apart_of_time hdat.out (Nat.le_refl _) hone (Nat.le_refl _))
            obtain ⟨cur, hcur⟩ := own_block (own_below HROW.out HB5.out)
            have HL5 := Lib.hid hl5.1
            have HALL := Lib.hid (hall.kept hl5.2 (hall.far hcur (by decide)))
            have HFIL := Lib.hid (own_grow (own_below hfil.out HB5.out) (own_below HROW.out HB5.out) (by decide) (by exact hl5.2))
            have HX0 := Lib.hid ((hx0.out.below HB5.out).far (p := ⟨g, q * 4 + 3, none⟩) (by show w.heap.size ≠ g; omega) (.slice A5 e.d.n c5))
            have HX1 := Lib.hid ((hx1.out.below HB5.out).far (p := ⟨g, q * 4 + 3, none⟩) (by show w.heap.size + 1 ≠ g; omega) (.slice A5 e.d.n c5))
            have HBE := Lib.hid ((below_chain hbel.out HB5.out).setCell (p := ⟨g, q * 4 + 3, none⟩) (by show w.heap.size ≤ g; omega) (.slice A5 e.d.n c5))
            clear hl5 hone hall hcur ho5 hb5 q5 f5 x5
            go_wp2
            go_roundw
            case rel => exact ⟨q + 1, out ++ [⟨e.kind, e.nm, e.to, ⟨A5, e.d.n, c5, e.d.xs⟩⟩], by omega, by go_num, Lib.hid (by simp [hlen.out]), Lib.hid (by rw [HSTEP.out, List.map_append, List.map_append, hfs.out]; rfl), HL5, Lib.hid (by rw [List.map_append, ← List.append_assoc]; exact HALL.out), HFIL, HX0, HX1, HBE⟩
            case measure => simp [intOf]; omega
        · have hkq : q = m := by omega
          subst hkq
          have hxx := (List.pairwise_append.1 hdat.out.apart).2.2
          have HXX := Lib.hid hxx
          have HOS : Hid (out.map OpE.op = os.map OpE.op) := Lib.hid (by rw [hfs.out, List.take_of_length_le (by have := HR.out.len; omega)])
          have hown2 := hown.out
          rw [List.drop_eq_nil_of_le (by have := HR.out.len; omega), List.append_nil] at hown2
          have HOWN2 := Lib.hid hown2
          have hml : made.length = k := by have := congrArg List.length HFS.out; simp only [List.length_map] at this; rw [this]; exact HF.out.len
          have HML := Lib.hid hml
          clear hxx hfs hown hown2 hml
          obtain ⟨⟨l0, x00, x01, x02, x03⟩, fr0⟩ := hx0.out
          obtain ⟨⟨l1, x10, x11, x12, x13⟩, fr1⟩ := hx1.out
          have fr10 := fr1 0
          have fr11 := fr1 1
          have fr12 := fr1 2
          have fr13 := fr1 3
          clear fr0 fr1
          go_wp2
          refine bodyPost_ret (v := .agg #[.int .i64 room, .int .i64 fuse, .slice A1 k c1, .slice B1 q d1]) (by simp [results, Try.results61, go_sem, x10, x11, x12, x13]) rfl ⟨A1, c1, B1, d1, made, out, ?_, HFS.out, HOS.out, ?_, ?_⟩
          · rw [HML.out, hlen.out]
          · have h2 : OwnD wr (w.heap.size + 1 + 1) A1 c1 B1 d1 made out := ⟨⟨by rw [HML.out]; exact hfil.out, hdat.out.left⟩, ⟨by rw [hlen.out]; exact HOWN2.out, hdat.out.right⟩, HXX.out⟩
            refine OwnD.mono (OwnD.lows h2 ?_) (by omega)
            exact Lows.set (Lows.set (Lows.set (Lows.set (Lows.refl _ _) (by simp <;> omega) _) (by simp <;> omega) _) (by simp <;> omega) _) (by simp <;> omega) _
          · exact Below.setCell (Below.setCell (Below.setCell (Below.setCell hbel.out (by simp <;> omega) _) (by simp <;> omega) _) (by simp <;> omega) _) (by simp <;> omega) _
end Go.Proofs.Ytfcomnpoehpgiaa
