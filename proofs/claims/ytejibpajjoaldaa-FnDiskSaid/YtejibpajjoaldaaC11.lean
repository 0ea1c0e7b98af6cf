/- The contracts of the functions that make all waiting operations safe: the model's and the program's. // The contracts of the functions that say what a power failure leaves: the model's and the program's. // The contract of the program's function that says what a power failure leaves. // Doing an operation on a disk, as data: what comes out, and its code (no program; no condition). // A list of files beside the block of an operation whose data are replaced by equal ones: the list reads on (no program). -/
import Derived.Deep.DeepCutAuto
import Derived.Test.YtejibpajjoaldaaC10
namespace Go.Proofs.Ytejibpajjoaldaa
open Go.RowKit Go.Maps

/-- A block that nothing reads: cells of its own alone are written. -/
structure OffB (b : Nat) (w w' : World) : Prop where
  size : w.heap.size ≤ w'.heap.size
  block : ∀ k, k ≠ b → w'.heap[k]? = w.heap[k]?
theorem OffB.out4 (w : World) (b : Nat) (u0 u1 u2 u3 : Value) : OffB b w ((((w.setCell ⟨b, 0, none⟩ u0).setCell ⟨b, 1, none⟩ u1).setCell ⟨b, 2, none⟩ u2).setCell ⟨b, 3, none⟩ u3) :=
  ⟨by simp, fun k hk => by rw [Below.heap_setCell _ _ _ _ hk, Below.heap_setCell _ _ _ _ hk, Below.heap_setCell _ _ _ _ hk, Below.heap_setCell _ _ _ _ hk]⟩
/-- A block that bears numbers and slices alone. -/
def Quiet (v : Value) : Prop := (∃ n, v = .int .i64 n) ∨ ∃ A n c, v = .slice A n c
def QBox (w : World) (b : Nat) : Prop := ∃ cs t, w.heap[b]? = some (.cells cs t (0, 0)) ∧ ∀ v ∈ cs, Quiet v
theorem quiet_int (n : Int) : Quiet (.int .i64 n) := .inl ⟨n, rfl⟩
theorem quiet_sl (A : Option Addr) (n c : Nat) : Quiet (.slice A n c) := .inr ⟨A, n, c, rfl⟩
theorem QBox.at_ {w : World} {b i : Nat} {v : Value} (h : QBox w b) (hc : w.cell? ⟨b, i, none⟩ = some v) : Quiet v := by
  obtain ⟨cs, t, h1, h2⟩ := h
  rw [cell_of_row _ b i cs t (0, 0) h1] at hc
  exact h2 v (Array.mem_of_getElem? hc)
theorem QBox.keep {w w' : World} {b : Nat} (h : QBox w b) (hk : w'.heap[b]? = w.heap[b]?) : QBox w' b := by
  obtain ⟨cs, t, h1, h2⟩ := h
  exact ⟨cs, t, hk.trans h1, h2⟩
theorem QBox.below {w w' : World} {b : Nat} (h : QBox w b) (hb : Below w.heap.size w w') : QBox w' b := by
  obtain ⟨cs, t, h1, h2⟩ := h
  exact ⟨cs, t, (hb.block b (lt_of_block h1)).trans h1, h2⟩
theorem QBox.new (w : World) (v0 v1 v2 v3 : Value) (t : TypeId) (h0 : Quiet v0) (h1 : Quiet v1) (h2 : Quiet v2) (h3 : Quiet v3) : QBox (w.alloc (.cells #[v0, v1, v2, v3] t)) w.heap.size :=
  ⟨_, t, heap_alloc_new w _, fun v hm => by
    simp at hm
    rcases hm with rfl | rfl | rfl | rfl
    · exact h0
    · exact h1
    · exact h2
    · exact h3⟩
theorem QBox.second (w : World) (o : Obj) (v0 v1 v2 v3 : Value) (t : TypeId) (h0 : Quiet v0) (h1 : Quiet v1) (h2 : Quiet v2) (h3 : Quiet v3) : QBox ((w.alloc o).alloc (.cells #[v0, v1, v2, v3] t)) (w.heap.size + 1) := by
  have h := QBox.new (w.alloc o) v0 v1 v2 v3 t h0 h1 h2 h3
  rw [World.size_alloc] at h
  exact h
theorem QBox.set {w : World} {b : Nat} {u : Value} (j : Nat) (h : QBox w b) (hu : Quiet u) : QBox (w.setCell ⟨b, j, none⟩ u) b := by
  obtain ⟨cs, t, h1, h2⟩ := h
  refine ⟨cs.setIfInBounds j u, t, by simp [World.setCell, Array.getElem?_modify, h1], fun v hv => ?_⟩
  rcases Array.mem_or_eq_of_mem_setIfInBounds hv with hv | rfl
  · exact h2 v hv
  · exact hu
theorem QBox.out4 {w : World} {b : Nat} {u0 u1 u2 u3 : Value} (h : QBox w b) (h0 : Quiet u0) (h1 : Quiet u1) (h2 : Quiet u2) (h3 : Quiet u3) : QBox ((((w.setCell ⟨b, 0, none⟩ u0).setCell ⟨b, 1, none⟩ u1).setCell ⟨b, 2, none⟩ u2).setCell ⟨b, 3, none⟩ u3) b :=
  (((h.set 0 h0).set 1 h1).set 2 h2).set 3 h3
theorem FBox.far4 {w : World} {b p : Nat} {v0 v1 v2 v3 : Value} (h : FBox w b v0 v1 v2 v3) (hp : b ≠ p) (u0 u1 u2 u3 : Value) : FBox ((((w.setCell ⟨p, 0, none⟩ u0).setCell ⟨p, 1, none⟩ u1).setCell ⟨p, 2, none⟩ u2).setCell ⟨p, 3, none⟩ u3) b v0 v1 v2 v3 :=
  (((h.far (p := ⟨p, 0, none⟩) hp u0).far (p := ⟨p, 1, none⟩) hp u1).far (p := ⟨p, 2, none⟩) hp u2).far (p := ⟨p, 3, none⟩) hp u3
theorem FBox.out4 {w : World} {b : Nat} {v0 v1 v2 v3 : Value} (h : FBox w b v0 v1 v2 v3) (u0 u1 u2 u3 : Value) : FBox ((((w.setCell ⟨b, 0, none⟩ u0).setCell ⟨b, 1, none⟩ u1).setCell ⟨b, 2, none⟩ u2).setCell ⟨b, 3, none⟩ u3) b u0 u1 u2 u3 :=
  (((h.set0 u0).set1 u1).set2 u2).set3 u3
theorem OffB.one (w : World) (b j : Nat) (u : Value) : OffB b w (w.setCell ⟨b, j, none⟩ u) := ⟨by simp, fun k hk => Below.heap_setCell _ _ _ _ hk⟩
theorem QBox.offB {w w' : World} {b p : Nat} (h : QBox w b) (ho : OffB p w w') (hp : b ≠ p) : QBox w' b := h.keep (ho.block b hp)
theorem Quiet.byte {x : Int} (h : Quiet (.int .u8 x)) : False := by
  rcases h with ⟨n, h⟩ | ⟨A, n, c, h⟩ <;> cases h
theorem Quiet.str {s : ByteArray} (h : Quiet (.string s)) : False := by
  rcases h with ⟨n, h⟩ | ⟨A, n, c, h⟩ <;> cases h
section
variable {w w' : World} {b n : Nat} {A : Option Addr} {xs : List Nat} {es : List Ent} {os : List OpE}
theorem Rd.off (h : Rd w A n xs) (hz : QBox w b) (ho : OffB b w w') : Rd w' A n xs :=
  ⟨h.len, h.small, fun hn => by
    obtain ⟨b', off, e, hb, hc⟩ := h.lies hn
    have hl : 0 < xs.length := by have := h.len; omega
    have hne : b' ≠ b := fun hh => by
      subst hh
      exact (hz.at_ (hc 0 xs[0] (List.getElem?_eq_getElem hl))).byte
    have := ho.size
    exact ⟨b', off, e, by omega, fun j x hx => (World.cell?_of_block (a := ⟨b', off + j, none⟩) (ho.block b' hne)).trans (hc j x hx)⟩⟩
theorem Dat.Ok.off {d : Dat} (h : d.Ok w) (hz : QBox w b) (ho : OffB b w w') : d.Ok w' := ⟨h.rd.off hz ho, h.cap⟩
theorem SlF.off (h : SlF w A n es) (hz : QBox w b) (ho : OffB b w w') : SlF w' A n es := by
  refine ⟨h.len, ⟨h.row.len, fun hn => ?_⟩, fun e he => (h.each e he).off hz ho⟩
  obtain ⟨b', off, e, hb, hc⟩ := h.row.lies hn
  obtain ⟨b2, off2, x, e2, _, _, _, c0, _⟩ := h.at_ hn
  obtain ⟨rfl, rfl⟩ : b' = b2 ∧ off = off2 := by
    rw [e] at e2
    injection e2 with h2
    injection h2 with h3 h4
    exact ⟨h3, h4⟩
  have hne : b' ≠ b := fun hh => by
    subst hh
    exact (hz.at_ c0).str
  have := ho.size
  exact ⟨b', off, e, by omega, fun j u hu => (World.cell?_of_block (a := ⟨b', off + j, none⟩) (ho.block b' hne)).trans (hc j u hu)⟩
end

/-! ### the answer -/
def burnF (f : Int) : Int := if 0 < f then f - 1 else f
def syncD (r : DD) : DD := if r.ok then (if r.fuse = 0 then r else ⟨r.room, burnF r.fuse, r.seen, []⟩) else DD.zero
def syncC (r : DD) : Int := if r.ok then (if r.fuse = 0 then 2 else 0) else 1
theorem syncD_bulk {r : DD} (h : r.weight ≤ 1048576) : (syncD r).bulk ≤ 2097152 := by
  unfold syncD
  split
  · rename_i hok
    split
    · exact bulk_wt h (DD.ok_lim hok).2.2.2.2.2
    · have := DD.seen_tot (r := r)
      unfold DD.bulk
      simp only [bulkF_tot]
      simp [bulkO]
      omega
  · exact zero_bulk

set_option maxRecDepth 10000 in
set_option maxHeartbeats 4000000 in
theorem specSync (r : DD) (A : Option Addr) (n c : Nat) (B : Option Addr) (m d : Nat) (es : List Ent) (os : List OpE) (w : World) (h : Meant w r A n B m es os) (hc : m ≤ d) :
    Calls Try.prog 72 #[.agg #[.int .i64 r.room, .int .i64 r.fuse, .slice A n c, .slice B m d]] w (SeeD w (syncD r) (.int .i64 (syncC r))) := by
  have C1 := Lib.hid (fun W (hb : Below w.heap.size w W) => (h.below hb).specOk c d)
  have CC := Lib.hid (fun W (hb : Below w.heap.size w W) => (h.below hb).specCopy c d)
  have CS := Lib.hid (fun W (hb : Below w.heap.size w W) => specSeen r A n c B m d es os W (h.below hb) hc)
  have HL := Lib.hid (fun hok => DD.ok_lim (r := r) hok)
  have F0 := Lib.hid ((FBox.new w (.int .i64 r.room) (.int .i64 r.fuse) (.slice A n c) (.slice B m d) 26).alloc (.cells #[.int .i64 0, .int .i64 0, .slice none 0 0, .slice none 0 0] 26))
  have F1 := Lib.hid (FBox.second w (.cells #[.int .i64 r.room, .int .i64 r.fuse, .slice A n c, .slice B m d] 26) (.int .i64 0) (.int .i64 0) (.slice none 0 0) (.slice none 0 0) 26)
  have Z1 := Lib.hid (QBox.second w (.cells #[.int .i64 r.room, .int .i64 r.fuse, .slice A n c, .slice B m d] 26) (.int .i64 0) (.int .i64 0) (.slice none 0 0) (.slice none 0 0) 26 (quiet_int _) (quiet_int _) (quiet_sl _ _ _) (quiet_sl _ _ _))
  have HD : Hid (syncD r = if r.ok then (if r.fuse = 0 then r else ⟨r.room, burnF r.fuse, r.seen, []⟩) else DD.zero) := Lib.hid rfl
  have HC : Hid (syncC r = if r.ok then (if r.fuse = 0 then 2 else 0) else 1) := Lib.hid rfl
  generalize syncD r = sd at HD ⊢
  generalize syncC r = sc at HC ⊢
  clear h
  go_enter Try.func72, Try.ntmps72
  go_wp2_with fail
  refine (C1.out _ (below_a2 _ _ _)).mono ?_
  rintro e w1 ⟨rfl, hb1⟩
  have HB1 := Lib.hid (below_chain (below_a2 w _ _) hb1)
  have G0 := Lib.hid (F0.out.below hb1)
  have G1 := Lib.hid (F1.out.below hb1)
  have Z2 := Lib.hid (Z1.out.below hb1)
  clear hb1 F0 F1 Z1
  obtain ⟨⟨l0, x00, x01, x02, x03⟩, fr0⟩ := G0.out
  obtain ⟨⟨l1, x10, x11, x12, x13⟩, fr1⟩ := G1.out
  have fr10 := fr1 0
  have fr11 := fr1 1
  have fr12 := fr1 2
  have fr13 := fr1 3
  clear fr0 fr1
  cases hr : r.ok with
  | false =>
    have e1 : sc = 1 := by rw [HC.out, hr]; rfl
    have e2 : sd = DD.zero := by rw [HD.out, hr]; rfl
    subst e1
    have HE2 := Lib.hid e2
    clear e2 HC HD
    go_wp2
    refine bodyPost_ret (v := .tuple #[.agg #[.int .i64 0, .int .i64 0, .slice none 0 0, .slice none 0 0], .int .i64 1]) (by simp [results, Try.results72, go_sem, x10, x11, x12, x13]) rfl ?_
    rw [HE2.out]
    exact ⟨none, 0, 0, none, 0, 0, [], [], rfl, rfl, rfl, SlF.nil, SlO.nil, below_out4 HB1.out (by omega) _ _ _ _⟩
  | true =>
    obtain ⟨r0, r1, f0, f1, _, _⟩ := HL.out hr
    by_cases hf0 : r.fuse = 0
    · have e1 : sc = 2 := by rw [HC.out, hr, if_pos rfl, if_pos hf0]
      have e2 : sd = r := by rw [HD.out, hr, if_pos rfl, if_pos hf0]
      have hd0 : (r.fuse == 0) = true := by simp [hf0]
      subst e1
      have HE2 := Lib.hid e2
      clear e2 HC HD hf0
      go_wp2_with fail
      refine (CC.out _ HB1.out).mono ?_
      rintro e w3 ⟨A1, c1, B1, d1, es1, os1, rfl, hf1, ho1, hd1, hb3⟩
      have HB3 := Lib.hid (below_chain HB1.out hb3)
      have J1 := Lib.hid (G1.out.below hb3)
      have HF1 := Lib.hid hf1
      have HO1 := Lib.hid ho1
      have HD1 := Lib.hid hd1
      have hle : w.heap.size + 1 < w1.heap.size := l1
      clear hb3 hf1 ho1 hd1 l1 x10 x11 x12 x13 l0 x00 x01 x02 x03 fr10 fr11 fr12 fr13
      obtain ⟨⟨l1, x10, x11, x12, x13⟩, fr1⟩ := J1.out
      have fr10 := fr1 0
      have fr11 := fr1 1
      have fr12 := fr1 2
      have fr13 := fr1 3
      clear fr1
      go_wp2
      refine bodyPost_ret (v := .tuple #[.agg #[.int .i64 r.room, .int .i64 r.fuse, .slice A1 es1.length c1, .slice B1 os1.length d1], .int .i64 2]) (by simp [results, Try.results72, go_sem, x10, x11, x12, x13]) rfl ?_
      rw [HE2.out]
      exact seeD_own (r := r) (HD1.out.out4 hle _ _ _ _) HF1.out HO1.out (below_out4 HB3.out (by omega) _ _ _ _)
    · have e1 : sc = 0 := by rw [HC.out, hr, if_pos rfl, if_neg hf0]
      have e2 : sd = ⟨r.room, burnF r.fuse, r.seen, []⟩ := by rw [HD.out, hr, if_pos rfl, if_neg hf0]
      have hd0 : (r.fuse == 0) = false := by simp [hf0]
      subst e1
      have HE2 := Lib.hid e2
      have HNZ := Lib.hid hf0
      clear e2 HC HD hf0
      go_upto_region 5 with fail
      go_cut [4] (fun s4 wx => ∃ (p : Nat) (A5 : Option Addr) (c5 : Nat) (es5 : List Ent), s4 = .pointer (some ⟨p, 0, none⟩) ∧ Hid (FBox wx p (.int .i64 r.room) (.int .i64 r.fuse) (.slice A5 es5.length c5) (.slice none 0 0)) ∧ Hid (QBox wx p) ∧ w.heap.size + 1 < p ∧ Hid (SlF wx A5 es5.length es5) ∧ Hid (es5.map Ent.file = r.seen) ∧ Hid (Below w.heap.size w wx) ∧ Hid (FBox wx (w.heap.size + 1) (.int .i64 0) (.int .i64 0) (.slice none 0 0) (.slice none 0 0)) ∧ Hid (QBox wx (w.heap.size + 1)))
      case first =>
        have ZN := Lib.hid (FBox.new w1 (.int .i64 0) (.int .i64 0) (.slice none 0 0) (.slice none 0 0) 26)
        have QN := Lib.hid (QBox.new w1 (.int .i64 0) (.int .i64 0) (.slice none 0 0) (.slice none 0 0) 26 (quiet_int _) (quiet_int _) (quiet_sl _ _ _) (quiet_sl _ _ _))
        go_region_held3 (fun W => W.cell? ⟨w.heap.size, 0, none⟩ = some (.int .i64 r.room) ∧ W.cell? ⟨w.heap.size, 1, none⟩ = some (.int .i64 r.fuse) ∧ W.cell? ⟨w.heap.size, 2, none⟩ = some (.slice A n c) ∧ W.cell? ⟨w.heap.size, 3, none⟩ = some (.slice B m d))
          (first
            | (exact ⟨y00, y01, y02, y03⟩)
            | (exact ⟨YY.out.box.c0, YY.out.box.c1, YY.out.box.c2, YY.out.box.c3⟩)
            | go_keep)
          (first
          | (go_at_call 16; ((with_reducible refine (CS.out _ (by first | exact HB1.out | exact HB1.out.drew)).mono ?_)); rintro e1 w5 ⟨A5, c5, es5, rfl, hf5, hs5, hb5⟩; have HB5 : Hid (Below w1.heap.size w1 w5) := Lib.hid (by first | exact hb5 | exact ⟨hb5.os, hb5.tape, hb5.output, hb5.size, hb5.block⟩); obtain ⟨⟨k0, y00, y01, y02, y03⟩, gr0⟩ := G0.out.below HB5.out; clear gr0)
          | (go_at_call 16; ((with_reducible refine (CS.out _ (by first | exact HB1.out.alloc HB1.out.size _ | exact (HB1.out.alloc HB1.out.size _).drew)).mono ?_)); rintro e1 w5 ⟨A5, c5, es5, rfl, hf5, hs5, hb5⟩; have HB6 : Hid (Below (w1.alloc (.cells #[.int .i64 0, .int .i64 0, .slice none 0 0, .slice none 0 0] 26)).heap.size (w1.alloc (.cells #[.int .i64 0, .int .i64 0, .slice none 0 0, .slice none 0 0] 26)) w5) := Lib.hid (by first | exact hb5 | exact ⟨hb5.os, hb5.tape, hb5.output, hb5.size, hb5.block⟩); have HB5 : Hid (Below w1.heap.size w1 w5) := Lib.hid (below_chain (below_a1 w1 _) HB6.out); have ZN5 := Lib.hid (ZN.out.below HB6.out); have QN5 := Lib.hid (QN.out.below HB6.out); obtain ⟨⟨k0, y00, y01, y02, y03⟩, gr0⟩ := G0.out.below HB5.out; clear gr0; obtain ⟨⟨m0, z00, z01, z02, z03⟩, hr0⟩ := ZN5.out; have hr00 := hr0 0; have hr01 := hr0 1; have hr02 := hr0 2; have hr03 := hr0 3; clear hr0; have YY := Lib.hid ((G0.out.below HB5.out).far4 (p := w1.heap.size) (by omega) (.int .i64 r.room) (.int .i64 r.fuse) (.slice A5 es5.length c5) (.slice none 0 0))))
        · go_wp2_with fail
          go_meet
          exact ⟨w5.heap.size, A5, c5, es5, rfl, Lib.hid (FBox.new w5 _ _ _ _ _), Lib.hid (QBox.new w5 _ _ _ _ _ (quiet_int _) (quiet_int _) (quiet_sl _ _ _) (quiet_sl _ _ _)), by have := HB5.out.size; omega, Lib.hid (hs5.below (below_a1 w5 _)), Lib.hid hf5, Lib.hid (below_chain (below_chain HB1.out HB5.out) (below_a1 w5 _)), Lib.hid ((G1.out.below HB5.out).alloc _), Lib.hid ((Z2.out.below HB5.out).below (below_a1 w5 _))⟩
        · go_wp2_with fail
          go_meet
          exact ⟨w1.heap.size, A5, c5, es5, rfl, Lib.hid (ZN5.out.out4 _ _ _ _), Lib.hid (QN5.out.out4 (quiet_int _) (quiet_int _) (quiet_sl _ _ _) (quiet_sl _ _ _)), l1, Lib.hid (hs5.off QN5.out (OffB.out4 w5 _ _ _ _ _)), Lib.hid hf5, Lib.hid (below_out4 (below_chain HB1.out HB5.out) (by omega) _ _ _ _), Lib.hid ((G1.out.below HB5.out).far4 (by omega) _ _ _ _), Lib.hid ((Z2.out.below HB5.out).offB (OffB.out4 w5 _ _ _ _ _) (by omega))⟩
      case rest =>
        obtain ⟨p, A5, c5, es5, rfl, hx, hq, hp, hsl, hfs, hbel, hx1, hq1⟩ := hcut
        clear l0 x00 x01 x02 x03 l1 x10 x11 x12 x13 fr10 fr11 fr12 fr13
        obtain ⟨⟨l0, x00, x01, x02, x03⟩, fr0⟩ := hx.out
        obtain ⟨⟨l1, x10, x11, x12, x13⟩, fr1⟩ := hx1.out
        have fr01 := fr0 1
        have fr10 := fr1 0
        have fr11 := fr1 1
        have fr12 := fr1 2
        have fr13 := fr1 3
        clear fr0 fr1
        by_cases hpos : 0 < r.fuse
        · have hb : burnF r.fuse = r.fuse - 1 := by unfold burnF; rw [if_pos hpos]
          have HBU := Lib.hid hb
          have hxx := (hx1.out.far (p := ⟨p, 1, none⟩) (by show w.heap.size + 1 ≠ p; omega) (.int .i64 (r.fuse - 1)))
          have HXX := Lib.hid hxx
          clear hb hxx
          go_wp2
          refine bodyPost_ret (v := .tuple #[.agg #[.int .i64 r.room, .int .i64 (r.fuse - 1), .slice A5 es5.length c5, .slice none 0 0], .int .i64 0]) (by simp [results, Try.results72, go_sem, HXX.out.box.c0, HXX.out.box.c1, HXX.out.box.c2, HXX.out.box.c3]) rfl ?_
          rw [HE2.out, HBU.out]
          have hq3 := hq1.out.offB (OffB.one wc p 1 (.int .i64 (r.fuse - 1))) (by omega)
          exact ⟨A5, es5.length, c5, none, 0, 0, es5, [], rfl, hfs.out, rfl, (hsl.out.off hq.out (OffB.one wc p 1 _)).off hq3 (OffB.out4 _ _ _ _ _ _), SlO.nil, below_out4 (hbel.out.setCell (p := ⟨p, 1, none⟩) (by show w.heap.size ≤ p; omega) _) (by omega) _ _ _ _⟩
        · have hb : burnF r.fuse = r.fuse := by unfold burnF; rw [if_neg hpos]
          have HBU := Lib.hid hb
          clear hb
          go_wp2
          refine bodyPost_ret (v := .tuple #[.agg #[.int .i64 r.room, .int .i64 r.fuse, .slice A5 es5.length c5, .slice none 0 0], .int .i64 0]) (by simp [results, Try.results72, go_sem, x10, x11, x12, x13]) rfl ?_
          rw [HE2.out, HBU.out]
          exact ⟨A5, es5.length, c5, none, 0, 0, es5, [], rfl, hfs.out, rfl, hsl.out.off hq1.out (OffB.out4 _ _ _ _ _ _), SlO.nil, below_out4 hbel.out (by omega) _ _ _ _⟩

theorem burnt_any (f : Int) (w : World) (h1 : -1 ≤ f) (h2 : f ≤ 2000) :
    Calls Try.prog 46 #[.int .i64 f] w fun e w' => e = .returned (.int .i64 (burnF f)) ∧ w = w' := by
  by_cases hpos : 0 < f
  · have hb : burnF f = f - 1 := by unfold burnF; rw [if_pos hpos]
    rw [hb]
    clear hb
    go_enter Try.func46, Try.ntmps46
    go_wp2
    go_ret
    exact ⟨rfl, rfl⟩
  · have hb : burnF f = f := by unfold burnF; rw [if_neg hpos]
    rw [hb]
    clear hb
    go_enter Try.func46, Try.ntmps46
    go_wp2
    go_ret
    exact ⟨rfl, rfl⟩

set_option maxRecDepth 10000 in
set_option maxHeartbeats 4000000 in
theorem implSync (r : DD) (A : Option Addr) (n c : Nat) (B : Option Addr) (m d : Nat) (es : List Ent) (os : List OpE) (w : World) (h : Meant w r A n B m es os) :
    Calls Try.prog 17 #[.agg #[.int .i64 r.room, .int .i64 r.fuse, .slice A n c, .slice B m d]] w (ResD w (syncD r) (.int .i64 (syncC r))) := by
  have CV := Lib.hid (fun W (hb : Below w.heap.size w W) => (h.below hb).vis c d)
  have CC := Lib.hid (fun W (hb : Below w.heap.size w W) => (h.below hb).implCopy c d)
  have HL := Lib.hid (fun hok => DD.ok_lim (r := r) hok)
  have HW := Lib.hid h.wt
  have F0 := Lib.hid ((FBox.new w (.int .i64 r.room) (.int .i64 r.fuse) (.slice A n c) (.slice B m d) 26).alloc (.cells #[.int .i64 0, .int .i64 0, .slice none 0 0, .slice none 0 0] 26))
  have F1 := Lib.hid (FBox.second w (.cells #[.int .i64 r.room, .int .i64 r.fuse, .slice A n c, .slice B m d] 26) (.int .i64 0) (.int .i64 0) (.slice none 0 0) (.slice none 0 0) 26)
  have HD : Hid (syncD r = if r.ok then (if r.fuse = 0 then r else ⟨r.room, burnF r.fuse, r.seen, []⟩) else DD.zero) := Lib.hid rfl
  have HC : Hid (syncC r = if r.ok then (if r.fuse = 0 then 2 else 0) else 1) := Lib.hid rfl
  generalize syncD r = sd at HD ⊢
  generalize syncC r = sc at HC ⊢
  clear h
  go_enter Try.func17, Try.ntmps17
  go_wp2_with fail
  refine (CV.out _ (below_a2 _ _ _)).mono ?_
  rintro e w1 (⟨hok, rfl, hb1⟩ | ⟨hok, mb, es1, rfl, hf1, hm1, hb1⟩)
  · have HB1 := Lib.hid (below_chain (below_a2 w _ _) hb1)
    obtain ⟨⟨l1, x10, x11, x12, x13⟩, fr1⟩ := F1.out.below hb1
    have fr10 := fr1 0
    have fr11 := fr1 1
    have fr12 := fr1 2
    have fr13 := fr1 3
    have e1 : sc = 1 := by rw [HC.out, hok]; rfl
    have e2 : sd = DD.zero := by rw [HD.out, hok]; rfl
    subst e1
    have HE2 := Lib.hid e2
    clear e2 HC HD fr1 hb1 hok
    go_wp2
    refine bodyPost_ret (v := .tuple #[.agg #[.int .i64 0, .int .i64 0, .slice none 0 0, .slice none 0 0], .int .i64 1]) (by simp [results, Try.results17, go_sem, x10, x11, x12, x13]) rfl ?_
    rw [HE2.out]
    exact ⟨none, 0, 0, none, 0, 0, [], [], rfl, rfl, rfl, rfl, rfl, OwnD.nil, below_out4 HB1.out (by omega) _ _ _ _⟩
  · have HB1 := Lib.hid (below_chain (below_a2 w _ _) hb1)
    have G0 := Lib.hid (F0.out.below hb1)
    have G1 := Lib.hid (F1.out.below hb1)
    have hfine := hm1.fine hf1 HW.out
    have CS := Lib.hid (fun W (hb : Below w1.heap.size w1 W) => implSorted _ mb es1 W (hm1.below hb) hfine.1 hfine.2)
    have HF := Lib.hid hf1
    clear hb1 F0 F1 hfine hf1 hm1
    obtain ⟨⟨l0, x00, x01, x02, x03⟩, fr0⟩ := G0.out
    obtain ⟨⟨l1, x10, x11, x12, x13⟩, fr1⟩ := G1.out
    have fr10 := fr1 0
    have fr11 := fr1 1
    have fr12 := fr1 2
    have fr13 := fr1 3
    clear fr0 fr1
    obtain ⟨r0, r1, f0, f1, _, _⟩ := HL.out hok
    by_cases hf0 : r.fuse = 0
    · have e1 : sc = 2 := by rw [HC.out, hok, if_pos rfl, if_pos hf0]
      have e2 : sd = r := by rw [HD.out, hok, if_pos rfl, if_pos hf0]
      have hd0 : (r.fuse == 0) = true := by simp [hf0]
      subst e1
      have HE2 := Lib.hid e2
      clear e2 HC HD hf0 hok
      go_wp2_with fail
      refine (CC.out _ HB1.out).mono ?_
      rintro e w3 ⟨A1, c1, B1, d1, es2, os1, rfl, hf1, ho1, hd1, hb3⟩
      have HB3 := Lib.hid (below_chain HB1.out hb3)
      have J1 := Lib.hid (G1.out.below hb3)
      have HF1 := Lib.hid hf1
      have HO1 := Lib.hid ho1
      have HD1 := Lib.hid hd1
      have hle : w.heap.size + 1 < w1.heap.size := l1
      clear hb3 hf1 ho1 hd1 l1 x10 x11 x12 x13 l0 x00 x01 x02 x03 fr10 fr11 fr12 fr13
      obtain ⟨⟨l1, x10, x11, x12, x13⟩, fr1⟩ := J1.out
      have fr10 := fr1 0
      have fr11 := fr1 1
      have fr12 := fr1 2
      have fr13 := fr1 3
      clear fr1
      go_wp2
      refine bodyPost_ret (v := .tuple #[.agg #[.int .i64 r.room, .int .i64 r.fuse, .slice A1 es2.length c1, .slice B1 os1.length d1], .int .i64 2]) (by simp [results, Try.results17, go_sem, x10, x11, x12, x13]) rfl ?_
      rw [HE2.out]
      exact resD_own (r := r) (HD1.out.out4 hle _ _ _ _) (by omega) HF1.out HO1.out (below_out4 HB3.out (by omega) _ _ _ _)
    · have e1 : sc = 0 := by rw [HC.out, hok, if_pos rfl, if_neg hf0]
      have e2 : sd = ⟨r.room, burnF r.fuse, r.seen, []⟩ := by rw [HD.out, hok, if_pos rfl, if_neg hf0]
      have hd0 : (r.fuse == 0) = false := by simp [hf0]
      have CB := Lib.hid (fun W => burnt_any r.fuse W f0 f1)
      subst e1
      have HE2 := Lib.hid e2
      clear e2 HC HD hf0 hok
      generalize burnF r.fuse = bf at CB HE2
      go_wp2
      go_region_held3 (fun W => W.cell? ⟨w.heap.size, 0, none⟩ = some (.int .i64 r.room) ∧ W.cell? ⟨w.heap.size, 1, none⟩ = some (.int .i64 r.fuse))
        (first
          | (exact ⟨y00, y01⟩)
          | (exact ⟨YY.out.box.c0, YY.out.box.c1⟩)
          | go_keep)
        (first
          | (go_at_call 46; ((with_reducible refine (CB.out _).mono ?_)); rintro e1 w4 ⟨rfl, rfl⟩)
          | (go_at_call 56; ((with_reducible refine (CS.out _ (by first | exact Below.refl _ _ | exact (Below.refl _ _).drew)).mono ?_)); rintro e1 w5 ⟨A5, c5, es5, rfl, hf5, ho5, hb5⟩; have HB5 : Hid (Below w1.heap.size w1 w5) := Lib.hid (by first | exact hb5 | exact ⟨hb5.os, hb5.tape, hb5.output, hb5.size, hb5.block⟩); have K1 := Lib.hid (G1.out.below HB5.out); obtain ⟨⟨k0, y00, y01, y02, y03⟩, gr0⟩ := G0.out.below HB5.out; obtain ⟨⟨m1, z10, z11, z12, z13⟩, hr1⟩ := K1.out; have hr10 := hr1 0; have hr11 := hr1 1; have hr12 := hr1 2; have hr13 := hr1 3; clear hr1 gr0; have YY := Lib.hid ((G0.out.below HB5.out).far4 (p := w.heap.size + 1) (by omega) (.int .i64 r.room) (.int .i64 bf) (.slice A5 es5.length c5) (.slice none 0 0))))
      all_goals
        go_wp2
        refine bodyPost_ret (v := .tuple #[.agg #[.int .i64 r.room, .int .i64 bf, .slice A5 es5.length c5, .slice none 0 0], .int .i64 0]) (by simp [results, Try.results17, go_sem, z10, z11, z12, z13]) rfl ?_
        rw [HE2.out]
        have ho6 : OwnF w5 w1.heap.size A5 c5 es5 := ho5
        have hod : OwnD w5 w1.heap.size A5 c5 none 0 es5 [] := ⟨ho6, OwnO.nil, by simp⟩
        exact resD_own (r := ⟨r.room, bf, r.seen, []⟩) (hod.out4 l1 _ _ _ _) (by omega) (hf5.trans HF.out) rfl (below_out4 (below_chain HB1.out HB5.out) (by omega) _ _ _ _)
end Go.Proofs.Ytejibpajjoaldaa
namespace Go.Proofs.Ytejibpajjoaldaa
open Go.RowKit Go.Maps

def clampN (n : Int) (m : Nat) : Nat := if n < 0 then 0 else if (m : Int) < n then m else n.toNat
theorem clampN_le (n : Int) (m : Nat) : clampN n m ≤ m := by
  unfold clampN
  split
  · omega
  · split <;> omega
theorem Rd.take {w : World} {A : Option Addr} {n k : Nat} {xs : List Nat} (h : Rd w A n xs) (hk : k ≤ n) : Rd w A k (xs.take k) := by
  refine ⟨by rw [List.length_take, h.len]; omega, fun x hx => h.small x (List.mem_of_mem_take hx), fun hn => ?_⟩
  obtain ⟨b, off, e, hb, hc⟩ := h.lies (by omega)
  refine ⟨b, off, e, hb, fun j x hx => hc j x ?_⟩
  rw [List.getElem?_take] at hx
  split at hx
  · exact hx
  · cases hx
def Dat.cut (d : Dat) (k : Nat) : Dat := ⟨d.A, k, d.c, d.xs.take k⟩
theorem Dat.Ok.cut {w : World} {d : Dat} (h : d.Ok w) {k : Nat} (hk : k ≤ d.n) : (d.cut k).Ok w := ⟨h.rd.take hk, Nat.le_trans hk h.cap⟩
def OpE.cut (o : OpE) (k : Nat) : OpE := ⟨o.kind, o.nm, o.to, o.d.cut k⟩
def cutO (o : OpD) (k : Nat) : OpD := (o.1, o.2.1, o.2.2.1, o.2.2.2.take k)
theorem OpE.cut_op (o : OpE) (k : Nat) : (o.cut k).op = cutO o.op k := rfl
theorem fits_cut (l : List FileD) (o : OpD) (k : Nat) : fitsF l (cutO o k) = fitsF l o := rfl

/-- The files that a power failure leaves. -/
def crashF (r : DD) (n k : Int) : List FileD :=
  match r.ops[clampN n r.ops.length]? with
  | none => r.after (clampN n r.ops.length)
  | some o => if o.1 = 2 then makeF (r.after (clampN n r.ops.length)) (cutO o (clampN k o.2.2.2.length)) else r.after (clampN n r.ops.length)
def crashD (r : DD) (n k : Int) : DD := if r.ok then ⟨r.room, -1, crashF r n k, []⟩ else DD.zero
theorem crashF_some {r : DD} {n k : Int} {m : Nat} (hm : r.ops.length = m) {o : OpD} (h : r.ops[clampN n m]? = some o) (h2 : o.1 = 2) : crashF r n k = makeF (r.after (clampN n m)) (cutO o (clampN k o.2.2.2.length)) := by
  subst hm
  unfold crashF
  rw [h]
  simp [h2]
theorem crashF_other {r : DD} {n k : Int} {m : Nat} (hm : r.ops.length = m) {o : OpD} (h : r.ops[clampN n m]? = some o) (h2 : o.1 ≠ 2) : crashF r n k = r.after (clampN n m) := by
  subst hm
  unfold crashF
  rw [h]
  simp [h2]
theorem crashF_none {r : DD} {n k : Int} {m : Nat} (hm : r.ops.length = m) (h : m ≤ clampN n m) : crashF r n k = r.after (clampN n m) := by
  subst hm
  unfold crashF
  rw [List.getElem?_eq_none h]
theorem take_tot (l : List Nat) (k : Nat) : (l.take k).length ≤ l.length := List.length_take_le' k l
theorem crashF_small {r : DD} (n k : Int) (hok : r.ok = true) : (crashF r n k).length ≤ 12 ∧ totF (crashF r n k) ≤ 600000 := by
  have hl := DD.ok_lim hok
  have hg := DD.after_good hok (clampN n r.ops.length)
  unfold crashF
  split
  · exact ⟨hg.1, by omega⟩
  · rename_i o ho
    obtain ⟨hop, hfit, _⟩ := DD.after_next hok ho
    have hbd := opOkF_bounds hop
    split
    · refine ⟨make_len (by rw [fits_cut]; exact hfit) hg.1, ?_⟩
      have h1 := make_tot (r.after (clampN n r.ops.length)) (cutO o (clampN k o.2.2.2.length))
      have h2 : (cutO o (clampN k o.2.2.2.length)).2.2.2.length ≤ o.2.2.2.length := take_tot _ _
      omega
    · exact ⟨hg.1, by omega⟩
theorem crashD_bulk {r : DD} (n k : Int) : (crashD r n k).bulk ≤ 2097152 := by
  unfold crashD
  split
  · rename_i hok
    have := crashF_small n k hok
    unfold DD.bulk
    simp only [bulkF_tot]
    simp [bulkO]
    omega
  · exact zero_bulk

end Go.Proofs.Ytejibpajjoaldaa
namespace Go.Proofs.Ytejibpajjoaldaa
open Go.RowKit Go.Maps

theorem crash_names {r : DD} (hw : r.weight ≤ 1048576) (q k : Int) : ∀ f ∈ crashF r q k, f.1.size ≤ 1048576 := by
  intro f hf
  unfold crashF at hf
  split at hf
  · exact DD.after_names hw _ f hf
  · rename_i o ho
    have hwo := wtO_each (l := r.ops) (f := o) (List.mem_of_getElem? ho)
    have hw2 := hw
    unfold DD.weight at hw2
    split at hf
    · rcases makeF_names hf with h | h | h
      · exact DD.after_names hw _ f h
      · rw [h]; show o.2.1.size ≤ _; omega
      · rw [h]; show o.2.2.1.size ≤ _; omega
    · exact DD.after_names hw _ f hf

/-- Doing the operation at place k, in the map. -/
theorem doneAt {r : DD} (hok : r.ok = true) (hw : r.weight ≤ 1048576) {k lo mb : Nat} {es2 : List Ent} {o : OpE} (ho : r.ops[k]? = some o.op) (hf : es2.map Ent.file = r.after k) (j : Nat) (_hj : o.kind = 2 ∨ o.d.n ≤ j) (W : World) (hm : MapIs W lo mb es2) (hd : o.d.Ok W) (hjn : j ≤ o.d.n) :
    Calls Try.prog 55 #[.map (some mb), .agg #[.int .i64 o.kind, .string o.nm, .string o.to, .slice o.d.A j o.d.c]] W (Applied W lo mb (makeF (r.after k) (cutO o.op j))) := by
  obtain ⟨hop, hfit, _⟩ := DD.after_next hok ho
  have hbd := opOkF_bounds hop
  have hk4 : 1 ≤ o.kind ∧ o.kind ≤ 4 := by
    have h7 : o.kind = 1 ∨ o.kind = 2 ∨ o.kind = 3 ∨ o.kind = 4 := hbd.1
    omega
  have hg := DD.after_good hok k
  have hl := DD.ok_lim hok
  have hwo := wtO_each (l := r.ops) (f := o.op) (List.mem_of_getElem? ho)
  unfold DD.weight at hw
  have h1 : o.nm.size ≤ 1048576 := by have : o.op.2.1.size = o.nm.size := rfl; omega
  have h2 : o.to.size ≤ 1048576 := by have : o.op.2.2.1.size = o.to.size := rfl; omega
  have hxl : o.op.2.2.2.length = o.d.n := hd.rd.len
  have hlen : es2.length ≤ 12 := by have h9 := congrArg List.length hf; rw [List.length_map] at h9; omega
  have := implApply lo mb es2 (o.cut j) W hm (by omega) h1 h2 (hd.cut hjn) (by show j ≤ 16777216; omega) (fun e he => by
    have h3 := hm.bound (k := 200000) (by rw [hf]; omega) e he
    omega) hk4.1 hk4.2 (by rw [hf]; exact hfit)
  rw [hf] at this
  exact this
theorem clampMM (q : Int) (m : Nat) : min (max q 0) (m : Int) = (clampN q m : Int) := by
  unfold clampN
  split
  · omega
  · split <;> omega
theorem cutO_full (o : OpD) {j : Nat} (h : o.2.2.2.length ≤ j) : cutO o j = o := by
  unfold cutO
  rw [List.take_of_length_le h]

set_option maxRecDepth 10000 in
set_option maxHeartbeats 4000000 in
theorem implCrash (r : DD) (q k : Int) (_hq : (Lit.int .i64 q).wf = true) (_hk : (Lit.int .i64 k).wf = true) (A : Option Addr) (n c : Nat) (B : Option Addr) (m d : Nat) (es : List Ent) (os : List OpE) (w : World) (h : Meant w r A n B m es os) (hc : m ≤ d) :
    Calls Try.prog 14 #[.agg #[.int .i64 r.room, .int .i64 r.fuse, .slice A n c, .slice B m d], .int .i64 q, .int .i64 k] w (ResD w (crashD r q k) (.bool r.ok)) := by
  have C1 := Lib.hid (fun W (hb : Below w.heap.size w W) => (h.below hb).implOk c d)
  have hml := h.modest.ol
  have hqm : clampN q m ≤ m := clampN_le q m
  have CF := Lib.hid (fun W (hb : Below w.heap.size w W) (hok : r.ok = true) => implFiles A n c es W (h.f.below hb) h.modest.fl (fun e he => (h.modest.fe e he).1) (by rw [h.hf]; exact (namesFrom_rises (okD_some (DD.ok_seen hok)).2.1).1))
  have HO := Lib.hid h.o
  have HOP := Lib.hid h.ho
  have HZ : Hid (es.map Ent.file = r.after 0) := Lib.hid h.hf
  have HW := Lib.hid h.wt
  have hmm : r.ops.length = m := by rw [← h.ho, List.length_map]; exact h.o.len
  have HMM := Lib.hid hmm
  have F0 := Lib.hid ((FBox.new w (.int .i64 r.room) (.int .i64 r.fuse) (.slice A n c) (.slice B m d) 26).alloc (.cells #[.int .i64 0, .int .i64 0, .slice none 0 0, .slice none 0 0] 26))
  have F1 := Lib.hid (FBox.second w (.cells #[.int .i64 r.room, .int .i64 r.fuse, .slice A n c, .slice B m d] 26) (.int .i64 0) (.int .i64 0) (.slice none 0 0) (.slice none 0 0) 26)
  have HD : Hid (crashD r q k = if r.ok then ⟨r.room, -1, crashF r q k, []⟩ else DD.zero) := Lib.hid rfl
  have H1 : Hid (∀ o : OpD, r.ops[clampN q m]? = some o → o.1 = 2 → crashF r q k = makeF (r.after (clampN q m)) (cutO o (clampN k o.2.2.2.length))) := Lib.hid (fun o ho h2 => crashF_some hmm ho h2)
  have H2 : Hid (∀ o : OpD, r.ops[clampN q m]? = some o → o.1 ≠ 2 → crashF r q k = r.after (clampN q m)) := Lib.hid (fun o ho h2 => crashF_other hmm ho h2)
  have H3 : Hid (m ≤ clampN q m → crashF r q k = r.after (clampN q m)) := Lib.hid (fun ho => crashF_none hmm ho)
  have HSM := Lib.hid (fun hok => crashF_small (r := r) q k hok)
  have HNM := Lib.hid (crash_names h.wt q k)
  generalize crashD r q k = sd at HD ⊢
  generalize crashF r q k = cf at HD H1 H2 H3 HSM HNM
  clear h hmm
  go_enter Try.func14, Try.ntmps14
  go_wp2_with fail
  refine (C1.out _ (below_a2 _ _ _)).mono ?_
  rintro e w1 ⟨rfl, hb1⟩
  have HB1 := Lib.hid (below_chain (below_a2 w _ _) hb1)
  have G0 := Lib.hid (F0.out.below hb1)
  have G1 := Lib.hid (F1.out.below hb1)
  clear hb1 F0 F1
  obtain ⟨⟨l0, x00, x01, x02, x03⟩, fr0⟩ := G0.out
  obtain ⟨⟨l1, x10, x11, x12, x13⟩, fr1⟩ := G1.out
  have fr10 := fr1 0
  have fr11 := fr1 1
  have fr12 := fr1 2
  have fr13 := fr1 3
  clear fr0 fr1
  cases hr : r.ok with
  | false =>
    have e2 : sd = DD.zero := by rw [HD.out, hr]; rfl
    have HE2 := Lib.hid e2
    clear e2 HD
    go_wp2
    refine bodyPost_ret (v := .tuple #[.agg #[.int .i64 0, .int .i64 0, .slice none 0 0, .slice none 0 0], .bool false]) (by simp [results, Try.results14, go_sem, x10, x11, x12, x13]) rfl ?_
    rw [HE2.out]
    first
      | exact ⟨none, 0, 0, none, 0, 0, [], [], rfl, rfl, rfl, rfl, rfl, OwnD.nil, below_out4 HB1.out (by omega) _ _ _ _⟩
      | (rw [hr]; exact ⟨none, 0, 0, none, 0, 0, [], [], rfl, rfl, rfl, rfl, rfl, OwnD.nil, below_out4 HB1.out (by omega) _ _ _ _⟩)
  | true =>
    have e2 : sd = ⟨r.room, -1, cf, []⟩ := by rw [HD.out, hr]; rfl
    have HE2 := Lib.hid e2
    have HRK := Lib.hid hr
    have CF2 := Lib.hid (fun W hb => CF.out W hb hr)
    have HSM2 := Lib.hid (HSM.out hr)
    clear e2 HD CF HSM
    go_wp2_with fail
    refine (CF2.out _ HB1.out).mono ?_
    rintro e w2 ⟨mb, es1, rfl, hf1, hm1, hb2⟩
    have HB2 := Lib.hid (below_chain HB1.out hb2)
    have J0 := Lib.hid (G0.out.below hb2)
    have J1 := Lib.hid (G1.out.below hb2)
    have HM1 := Lib.hid hm1
    have HF1 := Lib.hid (hf1.trans HZ.out)
    have hlo : w.heap.size + 1 < w1.heap.size := l1
    clear hb2 hm1 hf1 l0 x00 x01 x02 x03 l1 x10 x11 x12 x13 fr10 fr11 fr12 fr13
    obtain ⟨⟨l0, x00, x01, x02, x03⟩, fr0⟩ := J0.out
    clear fr0
    have hmaxmin : Hid (min (max q 0) (m : Int) = (clampN q m : Int)) := Lib.hid (clampMM q m)
    go_wp2
    rw [clampMM q m, show max ((clampN q m : Nat) : Int) 0 = ((clampN q m : Nat) : Int) from by omega, Int.toNat_natCast]
    clear hmaxmin
    have dqm := hqm
    generalize clampN q m = qq at dqm hqm H1 H2 H3 ⊢
    clear l0 x00 x01 x02 x03
    go_loopw [31] (fun i wr => ∃ (p : Nat) (es2 : List Ent), p ≤ qq ∧ i = .int .i64 p ∧ Hid (es2.map Ent.file = r.after p) ∧ Hid (MapIs wr w1.heap.size mb es2) ∧ Hid (FBox wr w.heap.size (.int .i64 r.room) (.int .i64 r.fuse) (.slice A n c) (.slice B m d)) ∧ Hid (FBox wr (w.heap.size + 1) (.int .i64 0) (.int .i64 0) (.slice none 0 0) (.slice none 0 0)) ∧ Hid (Below w.heap.size w wr)) (fun i _ => qq - (intOf i).toNat)
    case atStart => exact ⟨0, es1, Nat.zero_le _, rfl, HF1, HM1, J0, J1, HB2⟩
    case round =>
      clear HF1 HM1 J0 J1 HB2
      obtain ⟨p, es2, hp, rfl, hfs, hm, hx0, hx1, hbel⟩ := hrel
      by_cases hlt : p < qq
      · have hpm : p < m := by omega
        obtain ⟨b, off, e, hB, hbw, he, hok, c0, c1', c2', c3'⟩ := HO.out.at_ hpm
        subst hB
        have c0 := (hbel.out.cell (p := ⟨b, off + p * 4, none⟩) hbw).trans c0
        have c1' := (hbel.out.cell (p := ⟨b, off + p * 4 + 1, none⟩) hbw).trans c1'
        have c2' := (hbel.out.cell (p := ⟨b, off + p * 4 + 2, none⟩) hbw).trans c2'
        have c3' := (hbel.out.cell (p := ⟨b, off + p * 4 + 3, none⟩) hbw).trans c3'
        have hoe : r.ops[p]? = some e.op := by rw [← HOP.out, List.getElem?_map, he.out]; rfl
        have hxl : e.op.2.2.2.length = e.d.n := hok.out.rd.len
        have haf := (DD.after_next HRK.out hoe).2.2
        have CM := Lib.hid (doneAt HRK.out HW.out hoe hfs.out e.d.n (.inr (Nat.le_refl _)) (wr.alloc (.cells #[.int .i64 e.kind, .string e.nm, .string e.to, .slice e.d.A e.d.n e.d.c] 30)) (hm.out.below (below_a1 wr _)) ((hok.out.below hbel.out).below (below_a1 wr _)) (Nat.le_refl _))
        rw [cutO_full e.op (by omega), ← haf] at CM
        have BX := Lib.hid (below_a1 wr (.cells #[.int .i64 e.kind, .string e.nm, .string e.to, .slice e.d.A e.d.n e.d.c] 30))
        have hlw : w1.heap.size ≤ wr.heap.size := Nat.le_trans hm.out.base (Nat.le_of_lt hm.out.lt)
        clear he hok hoe hxl haf
        go_wp2_with fail
        refine CM.out.mono ?_
        rintro e1 w4 ⟨es4, rfl, hf4, hm4, hb4⟩
        have HF4 := Lib.hid hf4
        have HM4 := Lib.hid hm4
        have BB := Lib.hid ((BX.out.mono hlw).trans hb4)
        have HX0 := Lib.hid (hx0.out.keep BB.out.size (BB.out.block w.heap.size (by omega)))
        have HX1 := Lib.hid (hx1.out.keep BB.out.size (BB.out.block (w.heap.size + 1) (by omega)))
        have HBE := Lib.hid (hbel.out.trans (BB.out.mono (by omega)))
        clear hf4 hm4 hb4
        go_wp2
        go_roundw
        case rel => exact ⟨p + 1, es4, by omega, by go_num, HF4, HM4, HX0, HX1, HBE⟩
        case measure => simp [intOf]; omega
      · have hpq : p = qq := by omega
        subst hpq
        have hl2 : w1.heap.size ≤ wr.heap.size := Nat.le_trans hm.out.base (Nat.le_of_lt hm.out.lt)
        have hfin : ∀ (W : World) (es5 : List Ent), MapIs W w1.heap.size mb es5 → es5.map Ent.file = cf → Calls Try.prog 56 #[.map (some mb)] W (MadeFs W cf) := fun W es5 hm5 hf5 => by
          have h8 := HSM2.out
          rw [← hf5]
          exact implSorted _ mb es5 W hm5 (by have := congrArg List.length hf5; rw [List.length_map] at this; omega) (fun e he => ⟨HNM.out e.file (by rw [← hf5]; exact List.mem_map.2 ⟨e, he, rfl⟩), by
            have := hm5.bound (k := 600000) (by rw [hf5]; exact h8.2) e he
            omega⟩)
        have HFIN := Lib.hid hfin
        obtain ⟨⟨l0, x00, x01, x02, x03⟩, fr0⟩ := hx0.out
        obtain ⟨⟨l1, x10, x11, x12, x13⟩, fr1⟩ := hx1.out
        have fr10 := fr1 0
        have fr11 := fr1 1
        have fr12 := fr1 2
        have fr13 := fr1 3
        clear fr0 fr1 hfin
        by_cases hlt : p < m
        · have dlt : decide ((p : Int) < (m : Int)) = true := by simp; omega
          have dlt' : decide (p < m) = true := by simp; omega
          obtain ⟨b, off, e, hB, hbw, he, hok, c0, c1', c2', c3'⟩ := HO.out.at_ hlt
          subst hB
          have c0 := (hbel.out.cell (p := ⟨b, off + p * 4, none⟩) hbw).trans c0
          have c1' := (hbel.out.cell (p := ⟨b, off + p * 4 + 1, none⟩) hbw).trans c1'
          have c2' := (hbel.out.cell (p := ⟨b, off + p * 4 + 2, none⟩) hbw).trans c2'
          have c3' := (hbel.out.cell (p := ⟨b, off + p * 4 + 3, none⟩) hbw).trans c3'
          have hoe : r.ops[p]? = some e.op := by rw [← HOP.out, List.getElem?_map, he.out]; rfl
          have hxl : e.op.2.2.2.length = e.d.n := hok.out.rd.len
          have hcd : e.d.n ≤ e.d.c := hok.out.cap
          by_cases h2 : e.kind = 2
          · have hcf := H1.out e.op hoe h2
            rw [hxl] at hcf
            have hkl : clampN k e.d.n ≤ e.d.n := clampN_le k e.d.n
            have hen : e.d.n ≤ 200000 := by rw [← hxl]; exact (opOkF_bounds (DD.after_next HRK.out hoe).1).2
            have CM := Lib.hid (fun W (hb : Below wr.heap.size wr W) => doneAt HRK.out HW.out hoe hfs.out (clampN k e.d.n) (.inl h2) W (hm.out.below hb) ((hok.out.below hbel.out).below hb) hkl)
            have HCF := Lib.hid hcf
            have hk2 : (e.kind == 2) = true := by simp [h2]
            have HMM2 := clampMM k e.d.n
            clear he hok hoe hxl hcf h2
            go_wp2_with fail
            refine (CM.out _ (below_a1 wr _)).mono ?_
            rintro e1 w4 ⟨es4, rfl, hf4, hm4, hb4⟩
            have BB : Hid (Below w1.heap.size wr w4) := Lib.hid (((below_a1 wr (.cells #[.int .i64 e.kind, .string e.nm, .string e.to, .slice e.d.A (clampN k e.d.n) e.d.c] 30)).mono hl2).trans hb4)
            have T0 := Lib.hid (hx0.out.keep BB.out.size (BB.out.block w.heap.size (by omega)))
            have T1 := Lib.hid (hx1.out.keep BB.out.size (BB.out.block (w.heap.size + 1) (by omega)))
            have HBE := Lib.hid (hbel.out.trans (BB.out.mono (by omega)))
            have CS := Lib.hid (fun W (hb : Below w4.heap.size w4 W) => HFIN.out W es4 (hm4.below hb) (hf4.trans HCF.out.symm))
            clear hf4 hm4 hb4 l0 x00 x01 x02 x03 l1 x10 x11 x12 x13 fr10 fr11 fr12 fr13 c0 c1' c2' c3'
            obtain ⟨⟨l0, x00, x01, x02, x03⟩, fr0⟩ := T0.out
            obtain ⟨⟨l1, x10, x11, x12, x13⟩, fr1⟩ := T1.out
            have fr10 := fr1 0
            have fr11 := fr1 1
            have fr12 := fr1 2
            have fr13 := fr1 3
            have hlx : w.heap.size + 1 < w4.heap.size := l1
            clear fr0 fr1
            go_wp2
            go_region_held3 (fun W => W.cell? ⟨w.heap.size, 0, none⟩ = some (.int .i64 r.room))
              (first
                | (exact y00)
                | (exact YY.out.box.c0)
                | go_keep)
              (first
                | (go_at_call 56; ((with_reducible refine (CS.out _ (by first | exact Below.refl _ _ | exact (Below.refl _ _).drew)).mono ?_)); rintro e1 w5 ⟨A5, c5, es5, rfl, hf5, ho5, hb5⟩; have HB5 : Hid (Below w4.heap.size w4 w5) := Lib.hid (by first | exact hb5 | exact ⟨hb5.os, hb5.tape, hb5.output, hb5.size, hb5.block⟩); have K1 := Lib.hid (T1.out.below HB5.out); obtain ⟨⟨k0, y00, y01, y02, y03⟩, gr0⟩ := T0.out.below HB5.out; obtain ⟨⟨m1, z10, z11, z12, z13⟩, hr1⟩ := K1.out; have hr10 := hr1 0; have hr11 := hr1 1; have hr12 := hr1 2; have hr13 := hr1 3; clear hr1 gr0; have YY := Lib.hid ((T0.out.below HB5.out).far4 (p := w.heap.size + 1) (by omega) (.int .i64 r.room) (.int .i64 (-1)) (.slice A5 es5.length c5) (.slice none 0 0))))
            all_goals
              go_wp2
              refine bodyPost_ret (v := .tuple #[.agg #[.int .i64 r.room, .int .i64 (-1), .slice A5 es5.length c5, .slice none 0 0], .bool true]) (by simp [results, Try.results14, go_sem, z10, z11, z12, z13]) rfl ?_
              rw [HE2.out]
              try rw [hr]
              have ho6 : OwnF w5 w4.heap.size A5 c5 es5 := ho5
              have hod : OwnD w5 w4.heap.size A5 c5 none 0 es5 [] := ⟨ho6, OwnO.nil, by simp⟩
              exact resD_own (r := ⟨r.room, -1, cf, []⟩) (hod.out4 hlx _ _ _ _) (by omega) hf5 rfl (below_out4 (below_chain HBE.out HB5.out) (by omega) _ _ _ _)
          · have hcf := H2.out e.op hoe h2
            have CS := Lib.hid (fun W (hb : Below wr.heap.size wr W) => HFIN.out W es2 (hm.out.below hb) (hfs.out.trans hcf.symm))
            have hk2 : (e.kind == 2) = false := by simp [h2]
            clear he hok hoe hxl hcf h2 c1' c2' c3'
            have T0 := hx0
            have T1 := hx1
            have hlx : w.heap.size + 1 < wr.heap.size := l1
            go_wp2
            go_region_held3 (fun W => W.cell? ⟨w.heap.size, 0, none⟩ = some (.int .i64 r.room))
              (first
                | (exact y00)
                | (exact YY.out.box.c0)
                | go_keep)
              (first
                | (go_at_call 56; ((with_reducible refine (CS.out _ (by first | exact Below.refl _ _ | exact (Below.refl _ _).drew)).mono ?_)); rintro e1 w5 ⟨A5, c5, es5, rfl, hf5, ho5, hb5⟩; have HB5 : Hid (Below wr.heap.size wr w5) := Lib.hid (by first | exact hb5 | exact ⟨hb5.os, hb5.tape, hb5.output, hb5.size, hb5.block⟩); have K1 := Lib.hid (T1.out.below HB5.out); obtain ⟨⟨k0, y00, y01, y02, y03⟩, gr0⟩ := T0.out.below HB5.out; obtain ⟨⟨m1, z10, z11, z12, z13⟩, hr1⟩ := K1.out; have hr10 := hr1 0; have hr11 := hr1 1; have hr12 := hr1 2; have hr13 := hr1 3; clear hr1 gr0; have YY := Lib.hid ((T0.out.below HB5.out).far4 (p := w.heap.size + 1) (by omega) (.int .i64 r.room) (.int .i64 (-1)) (.slice A5 es5.length c5) (.slice none 0 0))))
            all_goals
              go_wp2
              refine bodyPost_ret (v := .tuple #[.agg #[.int .i64 r.room, .int .i64 (-1), .slice A5 es5.length c5, .slice none 0 0], .bool true]) (by simp [results, Try.results14, go_sem, z10, z11, z12, z13]) rfl ?_
              rw [HE2.out]
              try rw [hr]
              have ho6 : OwnF w5 wr.heap.size A5 c5 es5 := ho5
              have hod : OwnD w5 wr.heap.size A5 c5 none 0 es5 [] := ⟨ho6, OwnO.nil, by simp⟩
              exact resD_own (r := ⟨r.room, -1, cf, []⟩) (hod.out4 hlx _ _ _ _) (by omega) hf5 rfl (below_out4 (below_chain hbel.out HB5.out) (by omega) _ _ _ _)
        · have dlt : decide ((p : Int) < (m : Int)) = false := by simp; omega
          have dlt' : decide (p < m) = false := by simp; omega
          have CS := Lib.hid (fun W (hb : Below wr.heap.size wr W) => HFIN.out W es2 (hm.out.below hb) (hfs.out.trans (H3.out (by omega)).symm))
          have T0 := hx0
          have T1 := hx1
          have hlx : w.heap.size + 1 < wr.heap.size := l1
          go_wp2
          go_region_held3 (fun W => W.cell? ⟨w.heap.size, 0, none⟩ = some (.int .i64 r.room))
            (first
              | (exact y00)
              | (exact YY.out.box.c0)
              | go_keep)
            (first
              | (go_at_call 56; ((with_reducible refine (CS.out _ (by first | exact Below.refl _ _ | exact (Below.refl _ _).drew)).mono ?_)); rintro e1 w5 ⟨A5, c5, es5, rfl, hf5, ho5, hb5⟩; have HB5 : Hid (Below wr.heap.size wr w5) := Lib.hid (by first | exact hb5 | exact ⟨hb5.os, hb5.tape, hb5.output, hb5.size, hb5.block⟩); have K1 := Lib.hid (T1.out.below HB5.out); obtain ⟨⟨k0, y00, y01, y02, y03⟩, gr0⟩ := T0.out.below HB5.out; obtain ⟨⟨m1, z10, z11, z12, z13⟩, hr1⟩ := K1.out; have hr10 := hr1 0; have hr11 := hr1 1; have hr12 := hr1 2; have hr13 := hr1 3; clear hr1 gr0; have YY := Lib.hid ((T0.out.below HB5.out).far4 (p := w.heap.size + 1) (by omega) (.int .i64 r.room) (.int .i64 (-1)) (.slice A5 es5.length c5) (.slice none 0 0))))
          all_goals
            go_wp2
            refine bodyPost_ret (v := .tuple #[.agg #[.int .i64 r.room, .int .i64 (-1), .slice A5 es5.length c5, .slice none 0 0], .bool true]) (by simp [results, Try.results14, go_sem, z10, z11, z12, z13]) rfl ?_
            rw [HE2.out]
            try rw [hr]
            have ho6 : OwnF w5 wr.heap.size A5 c5 es5 := ho5
            have hod : OwnD w5 wr.heap.size A5 c5 none 0 es5 [] := ⟨ho6, OwnO.nil, by simp⟩
            exact resD_own (r := ⟨r.room, -1, cf, []⟩) (hod.out4 hlx _ _ _ _) (by omega) hf5 rfl (below_out4 (below_chain hbel.out HB5.out) (by omega) _ _ _ _)
end Go.Proofs.Ytejibpajjoaldaa
namespace Go.Proofs.Ytejibpajjoaldaa
open Go.RowKit Go.Maps

/-- How many bytes are left. -/
def leftD (r : DD) : Nat := r.room.toNat - totF r.seen
def doOps (r : DD) (o : OpD) : List OpD := if leftD r < o.2.2.2.length then (if leftD r = 0 then r.ops else r.ops ++ [cutO o (leftD r)]) else r.ops ++ [o]
def doA (r : DD) (o : OpD) : DD × Int :=
  if r.ok = true ∧ opOkF o = true then
    (if r.fuse = 0 then (r, 2) else if fitsF r.seen o = false then (r, 3) else if r.ops.length = 60 then (r, 4)
     else (⟨r.room, burnF r.fuse, r.fs, doOps r o⟩, if leftD r < o.2.2.2.length then 5 else 0))
  else (DD.zero, 1)
section
variable {r : DD} {o : OpD}
theorem leftD_eq (h : r.ok = true) : r.room - (totF r.seen : Int) = (leftD r : Int) ∧ leftD r ≤ 200000 := by
  have h1 := DD.seen_good h
  have h2 := DD.ok_lim h
  unfold leftD
  omega
theorem doA_bad (h : ¬ (r.ok = true ∧ opOkF o = true)) : doA r o = (DD.zero, 1) := if_neg h
theorem doA_2 (h : r.ok = true) (h' : opOkF o = true) (hf : r.fuse = 0) : doA r o = (r, 2) := by unfold doA; rw [if_pos ⟨h, h'⟩, if_pos hf]
theorem doA_3 (h : r.ok = true) (h' : opOkF o = true) (hf : r.fuse ≠ 0) (hx : fitsF r.seen o = false) : doA r o = (r, 3) := by unfold doA; rw [if_pos ⟨h, h'⟩, if_neg hf, if_pos hx]
theorem doA_4 (h : r.ok = true) (h' : opOkF o = true) (hf : r.fuse ≠ 0) (hx : fitsF r.seen o = true) (hl : r.ops.length = 60) : doA r o = (r, 4) := by
  unfold doA
  rw [if_pos ⟨h, h'⟩, if_neg hf, if_neg (by simp [hx]), if_pos hl]
theorem doA_go (h : r.ok = true) (h' : opOkF o = true) (hf : r.fuse ≠ 0) (hx : fitsF r.seen o = true) (hl : r.ops.length ≠ 60) :
    doA r o = (⟨r.room, burnF r.fuse, r.fs, doOps r o⟩, if leftD r < o.2.2.2.length then 5 else 0) := by
  unfold doA
  rw [if_pos ⟨h, h'⟩, if_neg hf, if_neg (by simp [hx]), if_neg hl]
theorem opOkF_data (h : opOkF o = true) : o.1 = 2 ∨ o.2.2.2.length = 0 := by
  by_cases h2 : o.1 = 2
  · exact .inl h2
  · refine .inr ?_
    unfold opOkF opOkB at h
    simp [h2] at h
    rcases h.2 with ⟨_, _, h3⟩ | ⟨_, _, h3⟩ <;> simp [h3]
theorem bulkO_app (a b : List OpD) : bulkO (a ++ b) = bulkO a + bulkO b := by simp [bulkO]
theorem doA_bulk (hw : r.weight ≤ 1048576) : (doA r o).1.bulk ≤ 2097152 := by
  unfold doA
  split
  · rename_i h
    have hl := DD.ok_lim h.1
    have hb := bulk_wt hw hl.2.2.2.2.2
    have h1 := bulkF_wt r.fs
    have h2 := bulkO_wt r.ops
    have hd := (opOkF_bounds h.2).2
    unfold DD.weight at hw
    split
    · exact hb
    · split
      · exact hb
      · split
        · exact hb
        · unfold DD.bulk
          have h3 : bulkO (doOps r o) ≤ bulkO r.ops + 200003 := by
            unfold doOps
            split
            · split
              · omega
              · rw [bulkO_app]
                have : (cutO o (leftD r)).2.2.2.length ≤ o.2.2.2.length := take_tot _ _
                simp only [bulkO, List.map_cons, List.map_nil, List.sum_cons, List.sum_nil]
                omega
            · rw [bulkO_app]
              simp only [bulkO, List.map_cons, List.map_nil, List.sum_cons, List.sum_nil]
              omega
          show bulkF r.fs + bulkO (doOps r o) ≤ 2097152
          omega
  · exact zero_bulk
end
/-- A third block of four cells. -/
theorem FBox.third (w : World) (o1 o2 : Obj) (v0 v1 v2 v3 : Value) (t : TypeId) : FBox (((w.alloc o1).alloc o2).alloc (.cells #[v0, v1, v2, v3] t)) (w.heap.size + 1 + 1) v0 v1 v2 v3 := by
  have h := FBox.new ((w.alloc o1).alloc o2) v0 v1 v2 v3 t
  rw [World.size_alloc, World.size_alloc] at h
  exact h
end Go.Proofs.Ytejibpajjoaldaa
namespace Go.Proofs.Ytejibpajjoaldaa
open Go.RowKit Go.Maps

/-- The block of an operation: four cells and no more. -/
def OBox (w : World) (b : Nat) (kind : Int) (nm tn : ByteArray) (A : Option Addr) (n c : Nat) : Prop :=
  ∃ t, w.heap[b]? = some (.cells #[.int .i64 kind, .string nm, .string tn, .slice A n c] t (0, 0))
section
variable {w w' : World} {b n c n0 c0 c2 : Nat} {kind : Int} {nm tn : ByteArray} {A A0 A2 : Option Addr} {xs ys : List Nat} {es : List Ent}
theorem OBox.keep (h : OBox w b kind nm tn A n c) (hk : w'.heap[b]? = w.heap[b]?) : OBox w' b kind nm tn A n c := by
  obtain ⟨t, h1⟩ := h
  exact ⟨t, hk.trans h1⟩
theorem OBox.below (h : OBox w b kind nm tn A n c) (hb : Below w.heap.size w w') : OBox w' b kind nm tn A n c := by
  obtain ⟨t, h1⟩ := h
  exact ⟨t, (hb.block b (lt_of_block h1)).trans h1⟩
theorem OBox.second (w : World) (o : Obj) (t : TypeId) : OBox ((w.alloc o).alloc (.cells #[.int .i64 kind, .string nm, .string tn, .slice A n c] t)) (w.heap.size + 1) kind nm tn A n c := by
  have h := heap_alloc_new (w.alloc o) (.cells #[.int .i64 kind, .string nm, .string tn, .slice A n c] t)
  rw [World.size_alloc] at h
  exact ⟨t, h⟩
theorem OBox.set (h : OBox w b kind nm tn A n c) (A2 : Option Addr) (n2 c2 : Nat) : OBox (w.setCell ⟨b, 3, none⟩ (.slice A2 n2 c2)) b kind nm tn A2 n2 c2 := by
  obtain ⟨t, h1⟩ := h
  exact ⟨t, by simp [World.setCell, Array.getElem?_modify, h1]⟩
theorem Rd.same (h : Rd w A n xs) (k : Rd w A n ys) : xs = ys := by
  refine List.ext_getElem? (fun j => ?_)
  by_cases hj : j < n
  · have hx : j < xs.length := by have := h.len; omega
    have hy : j < ys.length := by have := k.len; omega
    obtain ⟨b1, o1, e1, _, d1⟩ := h.lies (by omega)
    obtain ⟨b2, o2, e2, _, d2⟩ := k.lies (by omega)
    rw [e1] at e2
    injection e2 with e2
    injection e2 with e3 e4
    subst e3 e4
    have f1 := d1 j _ (List.getElem?_eq_getElem hx)
    have f2 := d2 j _ (List.getElem?_eq_getElem hy)
    rw [f1] at f2
    rw [List.getElem?_eq_getElem hx, List.getElem?_eq_getElem hy]
    injection f2 with f2
    injection f2 with _ f2
    exact congrArg some (by exact_mod_cast f2)
  · rw [List.getElem?_eq_none (by have := h.len; omega), List.getElem?_eq_none (by have := k.len; omega)]
theorem OBox.noByte {i : Nat} {x : Int} (h : OBox w b kind nm tn A n c) (hc : w.cell? ⟨b, i, none⟩ = some (.int .u8 x)) : False := by
  obtain ⟨t, h1⟩ := h
  rw [cell_of_row _ b i _ t (0, 0) h1] at hc
  have hm := Array.mem_of_getElem? hc
  simp at hm
theorem Rd.offO (h : Rd w A n xs) (hz : OBox w b kind nm tn A0 n0 c0) (ho : OffB b w w') : Rd w' A n xs :=
  ⟨h.len, h.small, fun hn => by
    obtain ⟨b', off, e, hb, hc⟩ := h.lies hn
    have hl : 0 < xs.length := by have := h.len; omega
    have hne : b' ≠ b := fun hh => by
      subst hh
      exact hz.noByte (hc 0 xs[0] (List.getElem?_eq_getElem hl))
    have := ho.size
    exact ⟨b', off, e, by omega, fun j x hx => (World.cell?_of_block (a := ⟨b', off + j, none⟩) (ho.block b' hne)).trans (hc j x hx)⟩⟩
/-- The data of an operation are replaced by a copy: a list of files that lay anywhere reads the same. -/
theorem SlF.swap (h : SlF w A n es) (hz : OBox w b kind nm tn A0 n0 c0) (ho : OffB b w w') (hz' : OBox w' b kind nm tn A2 n0 c2) (h0 : Rd w A0 n0 xs) (h2 : Dat.Ok w' ⟨A2, n0, c2, xs⟩) :
    ∃ es', SlF w' A n es' ∧ es'.map Ent.file = es.map Ent.file := by
  have hsz := ho.size
  by_cases hn : 0 < n
  · obtain ⟨b1, off, e, hA, hb1, he, hok, d0, d1⟩ := h.at_ hn
    by_cases hbb : b1 = b
    · subst hbb
      obtain ⟨t, hr⟩ := hz
      obtain ⟨t', hr'⟩ := hz'
      have ho2 : off = 2 := by
        rw [cell_of_row _ b1 _ _ t (0, 0) hr] at d0 d1
        rcases off with _ | _ | _ | _ | k
        · simp at d0
        · simp at d1
        · rfl
        · simp at d0
        · simp at d0
      subst ho2
      have hn1 : n = 1 := by
        by_cases hne : n = 1
        · exact hne
        · obtain ⟨b3, o3, e3, hA3, _, _, _, f0, _⟩ := h.at_ (j := 1) (by omega)
          rw [hA] at hA3
          injection hA3 with hA3
          injection hA3 with g1 g2
          subst g1 g2
          rw [cell_of_row _ b1 _ _ t (0, 0) hr] at f0
          simp at f0
      subst hn1
      have hes : es = [e] := by
        have hl := h.len
        have h9 := he.out
        rcases es with _ | ⟨x, _ | ⟨y, l⟩⟩
        · simp at hl
        · simpa using h9
        · simp at hl
      subst hes
      rw [cell_of_row _ b1 _ _ t (0, 0) hr] at d0 d1
      have g0 : tn = e.nm := by simpa using d0
      have g1 : A0 = e.d.A ∧ n0 = e.d.n ∧ c0 = e.d.c := by simpa using d1
      have hrd := hok.out.rd
      rw [← g1.1, ← g1.2.1] at hrd
      have hxs := h0.same hrd
      refine ⟨[⟨tn, ⟨A2, n0, c2, xs⟩⟩], ⟨rfl, ⟨rfl, fun _ => ⟨b1, 2, hA, by omega, fun j u hu => ?_⟩⟩, fun x hx => ?_⟩, ?_⟩
      · rw [cell_of_row _ b1 _ _ t' (0, 0) hr']
        rcases j with _ | _ | j
        · simpa [Ent.cells] using hu
        · simpa [Ent.cells] using hu
        · simp [Ent.cells] at hu
      · rw [List.mem_singleton.1 hx]
        exact h2
      · simp [Ent.file, g0, hxs]
    · refine ⟨es, ⟨h.len, ⟨h.row.len, fun _ => ?_⟩, fun x hx => ⟨(h.each x hx).rd.offO hz ho, (h.each x hx).cap⟩⟩, rfl⟩
      obtain ⟨b', o', e', hb', hc'⟩ := h.row.lies hn
      rw [hA] at e'
      injection e' with e'
      injection e' with g1 g2
      subst g1 g2
      exact ⟨b1, off, hA, by omega, fun j u hu => (World.cell?_of_block (a := ⟨b1, off + j, none⟩) (ho.block b1 hbb)).trans (hc' j u hu)⟩
  · have hn0 : n = 0 := by omega
    subst hn0
    have hes : es = [] := List.length_eq_zero_iff.1 h.len
    subst hes
    exact ⟨[], SlF.nil, rfl⟩
end
/-- A block of the type t. -/
def TBox (w : World) (b : Nat) (t : TypeId) : Prop := ∃ cs fr, w.heap[b]? = some (.cells cs t fr)
section
variable {w w' : World} {b lo e size n : Nat} {t : TypeId} {v : Value} {xs : List Value} {l : List Dat} {p : Addr}
theorem TBox.new (w : World) (cs : Array Value) (t : TypeId) : TBox (w.alloc (.cells cs t)) w.heap.size t := ⟨cs, (0, 0), heap_alloc_new w _⟩
theorem TBox.keep (h : TBox w b t) (hk : w'.heap[b]? = w.heap[b]?) : TBox w' b t := by
  obtain ⟨cs, fr, h1⟩ := h
  exact ⟨cs, fr, hk.trans h1⟩
theorem TBox.below (h : TBox w b t) (hb : Below w.heap.size w w') : TBox w' b t := by
  obtain ⟨cs, fr, h1⟩ := h
  exact ⟨cs, fr, (hb.block b (lt_of_block h1)).trans h1⟩
theorem TBox.set (h : TBox w b t) (j : Nat) (u : Value) : TBox (w.setCell ⟨b, j, none⟩ u) b t := by
  obtain ⟨cs, fr, h1⟩ := h
  exact ⟨cs.setIfInBounds j u, fr, by simp [World.setCell, Array.getElem?_modify, h1]⟩
theorem only_one (w : World) (p : Addr) (u : Value) : Only (fun k => k = p.block) w (w.setCell p u) :=
  ⟨rfl, rfl, rfl, by simp, fun k _ hn => Below.heap_setCell _ _ _ _ hn⟩
theorem TBox.apart (ht : TBox w b t) (h : w.ownsRow lo e size v n xs) (hne : e ≠ t) : v.ownBlock ≠ some b := by
  intro hh
  obtain ⟨cs, fr, h1⟩ := ht
  rcases h.2 with ⟨rfl, _⟩ | ⟨g, cap, cur, rfl, _, hcell, _⟩
  · simp [Value.ownBlock] at hh
  · have e2 : g = b := by simpa [Value.ownBlock] using hh
    subst e2
    rw [hcell] at h1
    injection h1 with h1
    injection h1 with _ h2
    exact hne h2
theorem own_set_type (h : w.ownsRow lo e size v n xs) (ht : TBox w p.block t) (hne : e ≠ t) (u : Value) : (w.setCell p u).ownsRow lo e size v n xs :=
  own_only h (only_one w p u) (fun k hk hh => ht.apart h hne (by rw [hk, hh]))
theorem OwnB.set_type (h : OwnB w lo l) (ht : TBox w p.block t) (hne : t ≠ 5) (u : Value) : OwnB (w.setCell p u) lo l :=
  h.only (only_one w p u) (fun d hd k hk hh => by
    obtain ⟨cs, fr, h1⟩ := ht
    rcases h.far h1 hne d hd with h3 | h3
    · rw [h3] at hk; cases hk
    · exact h3 (by rw [hk, hh]))
end
/-- The answer: the copied files, the copied operations and a new one behind them, whose data may be cut. -/
theorem seeD_app {w w8 : World} {lo b2 b3 c1 d2 K : Nat} {A1 B2 : Option Addr} {es : List Ent} {os : List OpE} {f : OpE} {r : DD} {x u u0 u1 u2 u3 : Value}
    (hf : w8.ownsRow lo 87 2 (.slice A1 es.length c1) es.length (es.flatMap Ent.cells))
    (ho : w8.ownsRow lo 30 4 (.slice B2 (os ++ [f.cut K]).length d2) (os ++ [f.cut K]).length ((os ++ [f.cut K]).flatMap OpE.cells))
    (hd : OwnB w8 lo (es.map Ent.d ++ os.map OpE.d ++ [f.d])) (ht : TBox w8 b3 26) (hb2 : b2 < lo) (hw2 : w.heap.size ≤ b2) (hw3 : w.heap.size ≤ b3) (hB : Below w.heap.size w w8) (hK : K ≤ f.d.n)
    (h1 : es.map Ent.file = r.fs) (h2 : (os ++ [f.cut K]).map OpE.op = r.ops) :
    SeeD w r x (.returned (.tuple #[.agg #[.int .i64 r.room, .int .i64 r.fuse, .slice A1 es.length c1, .slice B2 (os ++ [f.cut K]).length d2], x])) (((((w8.setCell ⟨b3, 3, none⟩ u).setCell ⟨b2, 0, none⟩ u0).setCell ⟨b2, 1, none⟩ u1).setCell ⟨b2, 2, none⟩ u2).setCell ⟨b2, 3, none⟩ u3) := by
  have hL : Lows lo (w8.setCell ⟨b3, 3, none⟩ u) (((((w8.setCell ⟨b3, 3, none⟩ u).setCell ⟨b2, 0, none⟩ u0).setCell ⟨b2, 1, none⟩ u1).setCell ⟨b2, 2, none⟩ u2).setCell ⟨b2, 3, none⟩ u3) :=
    Lows.set (Lows.set (Lows.set (Lows.set (Lows.refl _ _) hb2 _) hb2 _) hb2 _) hb2 _
  have hf9 := own_keep (own_set_type hf (p := ⟨b3, 3, none⟩) ht (by decide) u) (fun k hk _ => hL k hk)
  have ho9 := own_keep (own_set_type ho (p := ⟨b3, 3, none⟩) ht (by decide) u) (fun k hk _ => hL k hk)
  have hd9 := (hd.set_type (p := ⟨b3, 3, none⟩) ht (by decide) u).keep (fun k hk _ => hL k hk)
  have hok := hd9.ok
  refine ⟨A1, es.length, c1, B2, (os ++ [f.cut K]).length, d2, es, os ++ [f.cut K], rfl, h1, h2, ⟨rfl, Row.of_own hf9, fun e he => ?_⟩, ⟨rfl, Row.of_own ho9, fun e he => ?_⟩, below_out4 (hB.setCell hw3 u) hw2 u0 u1 u2 u3⟩
  · exact hok _ (List.mem_append_left _ (List.mem_append_left _ (List.mem_map.2 ⟨e, he, rfl⟩)))
  · rcases List.mem_append.1 he with he | he
    · exact hok _ (List.mem_append_left _ (List.mem_append_right _ (List.mem_map.2 ⟨e, he, rfl⟩)))
    · rw [List.mem_singleton.1 he]
      have hx := hok f.d (List.mem_append_right _ (List.mem_singleton.2 rfl))
      exact ⟨hx.rd.take hK, Nat.le_trans hK hx.cap⟩
end Go.Proofs.Ytejibpajjoaldaa
