/- The contracts of the functions that make all waiting operations safe: the model's and the program's. -/
import Derived.Test.YtfcomnpoehpgiaaC10
import Derived.Deep.DeepCutAuto
namespace Go.Proofs.Ytfcomnpoehpgiaa
open Go.RowKit Go.Maps

/-- A block that nothing reads: cells of its own alone are written. -/
structure OffB (b : Nat) (w w' : World) : Prop where
  size : w.heap.size ≤ w'.heap.size
  block : ∀ k, k ≠ b → w'.heap[k]? = w.heap[k]?
theorem OffB.out4 (w : World) (b : Nat) (u0 u1 u2 u3 : Value) : OffB b w ((((w.setCell ⟨b, 0, none⟩ u0).setCell ⟨b, 1, none⟩ u1).setCell ⟨b, 2, none⟩ u2).setCell ⟨b, 3, none⟩ u3) :=
  ⟨by simp, fun k hk => by rw [Below.heap_setCell _ _ _ _ hk, Below.heap_setCell _ _ _ _ hk, Below.heap_setCell _ _ _ _ hk, Below.heap_setCell _ _ _ _ hk]⟩
/-- A block that bears numbers and slices alone. -/
def Quiet (v : Value) : Prop := (∃ n, v = .int .i64 n) ∨ ∃ A n c, v = .slice A n c
def QBox (w : World) (b : Nat) : Prop := ∃ cs t, w.heap[b]? = some (.cells cs t (0, 0)) ∧ ∀ v ∈ cs, Quiet v
theorem quiet_int (n : Int) : Quiet (.int .i64 n) := .inl ⟨n, rfl⟩
theorem quiet_sl (A : Option Addr) (n c : Nat) : Quiet (.slice A n c) := .inr ⟨A, n, c, rfl⟩
theorem QBox.at_ {w : World} {b i : Nat} {v : Value} (h : QBox w b) (hc : w.cell? ⟨b, i, none⟩ = some v) : Quiet v := by
  obtain ⟨cs, t, h1, h2⟩ := h
  rw [cell_of_row _ b i cs t (0, 0) h1] at hc
  exact h2 v (Array.mem_of_getElem? hc)
theorem QBox.keep {w w' : World} {b : Nat} (h : QBox w b) (hk : w'.heap[b]? = w.heap[b]?) : QBox w' b := by
  obtain ⟨cs, t, h1, h2⟩ := h
  exact ⟨cs, t, hk.trans h1, h2⟩
theorem QBox.below {w w' : World} {b : Nat} (h : QBox w b) (hb : Below w.heap.size w w') : QBox w' b := by
  obtain ⟨cs, t, h1, h2⟩ := h
  exact ⟨cs, t, (hb.block b (lt_of_block h1)).trans h1, h2⟩
theorem QBox.new (w : World) (v0 v1 v2 v3 : Value) (t : TypeId) (h0 : Quiet v0) (h1 : Quiet v1) (h2 : Quiet v2) (h3 : Quiet v3) : QBox (w.alloc (.cells #[v0, v1, v2, v3] t)) w.heap.size :=
  ⟨_, t, heap_alloc_new w _, fun v hm => by
    simp at hm
    rcases hm with rfl | rfl | rfl | rfl
    · exact h0
    · exact h1
    · exact h2
    · exact h3⟩
theorem QBox.second (w : World) (o : Obj) (v0 v1 v2 v3 : Value) (t : TypeId) (h0 : Quiet v0) (h1 : Quiet v1) (h2 : Quiet v2) (h3 : Quiet v3) : QBox ((w.alloc o).alloc (.cells #[v0, v1, v2, v3] t)) (w.heap.size + 1) := by
  have h := QBox.new (w.alloc o) v0 v1 v2 v3 t h0 h1 h2 h3
  rw [World.size_alloc] at h
  exact h
theorem QBox.set {w : World} {b : Nat} {u : Value} (j : Nat) (h : QBox w b) (hu : Quiet u) : QBox (w.setCell ⟨b, j, none⟩ u) b := by
  obtain ⟨cs, t, h1, h2⟩ := h
  refine ⟨cs.setIfInBounds j u, t, by simp [World.setCell, Array.getElem?_modify, h1], fun v hv => ?_⟩
  rcases Array.mem_or_eq_of_mem_setIfInBounds hv with hv | rfl
  · exact h2 v hv
  · exact hu
theorem QBox.out4 {w : World} {b : Nat} {u0 u1 u2 u3 : Value} (h : QBox w b) (h0 : Quiet u0) (h1 : Quiet u1) (h2 : Quiet u2) (h3 : Quiet u3) : QBox ((((w.setCell ⟨b, 0, none⟩ u0).setCell ⟨b, 1, none⟩ u1).setCell ⟨b, 2, none⟩ u2).setCell ⟨b, 3, none⟩ u3) b :=
  (((h.set 0 h0).set 1 h1).set 2 h2).set 3 h3
theorem FBox.far4 {w : World} {b p : Nat} {v0 v1 v2 v3 : Value} (h : FBox w b v0 v1 v2 v3) (hp : b ≠ p) (u0 u1 u2 u3 : Value) : FBox ((((w.setCell ⟨p, 0, none⟩ u0).setCell ⟨p, 1, none⟩ u1).setCell ⟨p, 2, none⟩ u2).setCell ⟨p, 3, none⟩ u3) b v0 v1 v2 v3 :=
  (((h.far (p := ⟨p, 0, none⟩) hp u0).far (p := ⟨p, 1, none⟩) hp u1).far (p := ⟨p, 2, none⟩) hp u2).far (p := ⟨p, 3, none⟩) hp u3
theorem FBox.out4 {w : World} {b : Nat} {v0 v1 v2 v3 : Value} (h : FBox w b v0 v1 v2 v3) (u0 u1 u2 u3 : Value) : FBox ((((w.setCell ⟨b, 0, none⟩ u0).setCell ⟨b, 1, none⟩ u1).setCell ⟨b, 2, none⟩ u2).setCell ⟨b, 3, none⟩ u3) b u0 u1 u2 u3 :=
  (((h.set0 u0).set1 u1).set2 u2).set3 u3
theorem OffB.one (w : World) (b j : Nat) (u : Value) : OffB b w (w.setCell ⟨b, j, none⟩ u) := ⟨by simp, fun k hk => Below.heap_setCell _ _ _ _ hk⟩
theorem QBox.offB {w w' : World} {b p : Nat} (h : QBox w b) (ho : OffB p w w') (hp : b ≠ p) : QBox w' b := h.keep (ho.block b hp)
theorem Quiet.byte {x : Int} (h : Quiet (.int .u8 x)) : False := by
  rcases h with ⟨n, h⟩ | ⟨A, n, c, h⟩ <;> cases h
theorem Quiet.str {s : ByteArray} (h : Quiet (.string s)) : False := by
  rcases h with ⟨n, h⟩ | ⟨A, n, c, h⟩ <;> cases h
section
variable {w w' : World} {b n : Nat} {A : Option Addr} {xs : List Nat} {es : List Ent} {os : List OpE}
theorem Rd.off (h : Rd w A n xs) (hz : QBox w b) (ho : OffB b w w') : Rd w' A n xs :=
  ⟨h.len, h.small, fun hn => by
    obtain ⟨b', off, e, hb, hc⟩ := h.lies hn
    have hl : 0 < xs.length := by have := h.len; omega
    have hne : b' ≠ b := fun hh => by
      subst hh
      exact (hz.at_ (hc 0 xs[0] (List.getElem?_eq_getElem hl))).byte
    have := ho.size
    exact ⟨b', off, e, by omega, fun j x hx => (World.cell?_of_block (a := ⟨b', off + j, none⟩) (ho.block b' hne)).trans (hc j x hx)⟩⟩
theorem Dat.Ok.off {d : Dat} (h : d.Ok w) (hz : QBox w b) (ho : OffB b w w') : d.Ok w' := ⟨h.rd.off hz ho, h.cap⟩
theorem SlF.off (h : SlF w A n es) (hz : QBox w b) (ho : OffB b w w') : SlF w' A n es := by
  refine ⟨h.len, ⟨h.row.len, fun hn => ?_⟩, fun e he => (h.each e he).off hz ho⟩
  obtain ⟨b', off, e, hb, hc⟩ := h.row.lies hn
  obtain ⟨b2, off2, x, e2, _, _, _, c0, _⟩ := h.at_ hn
  obtain ⟨rfl, rfl⟩ : b' = b2 ∧ off = off2 := by
    rw [e] at e2
    injection e2 with h2
    injection h2 with h3 h4
    exact ⟨h3, h4⟩
  have hne : b' ≠ b := fun hh => by
    subst hh
    exact (hz.at_ c0).str
  have := ho.size
  exact ⟨b', off, e, by omega, fun j u hu => (World.cell?_of_block (a := ⟨b', off + j, none⟩) (ho.block b' hne)).trans (hc j u hu)⟩
end

/-! ### the answer -/
def burnF (f : Int) : Int := if 0 < f then f - 1 else f
def syncD (r : DD) : DD := if r.ok then (if r.fuse = 0 then r else ⟨r.room, burnF r.fuse, r.seen, []⟩) else DD.zero
def syncC (r : DD) : Int := if r.ok then (if r.fuse = 0 then 2 else 0) else 1
theorem syncD_bulk {r : DD} (h : r.weight ≤ 1048576) : (syncD r).bulk ≤ 2097152 := by
  unfold syncD
  split
  · rename_i hok
    split
    · exact bulk_wt h (DD.ok_lim hok).2.2.2.2.2
    · have := DD.seen_tot (r := r)
      unfold DD.bulk
      simp only [bulkF_tot]
      simp [bulkO]
      omega
  · exact zero_bulk

set_option maxRecDepth 10000 in
set_option maxHeartbeats 4000000 in
theorem specSync (r : DD) (A : Option Addr) (n c : Nat) (B : Option Addr) (m d : Nat) (es : List Ent) (os : List OpE) (w : World) (h : Meant w r A n B m es os) (hc : m ≤ d) :
    Calls Try.prog 50 #[.agg #[.int .i64 r.room, .int .i64 r.fuse, .slice A n c, .slice B m d]] w (SeeD w (syncD r) (.int .i64 (syncC r))) := by
  have C1 := Lib.hid (fun W (hb : Below w.heap.size w W) => (h.below hb).specOk c d)
  have CC := Lib.hid (fun W (hb : Below w.heap.size w W) => (h.below hb).specCopy c d)
  have CS := Lib.hid (fun W (hb : Below w.heap.size w W) => specSeen r A n c B m d es os W (h.below hb) hc)
  have HL := Lib.hid (fun hok => DD.ok_lim (r := r) hok)
  have F0 := Lib.hid ((FBox.new w (.int .i64 r.room) (.int .i64 r.fuse) (.slice A n c) (.slice B m d) 26).alloc (.cells #[.int .i64 0, .int .i64 0, .slice none 0 0, .slice none 0 0] 26))
  have F1 := Lib.hid (FBox.second w (.cells #[.int .i64 r.room, .int .i64 r.fuse, .slice A n c, .slice B m d] 26) (.int .i64 0) (.int .i64 0) (.slice none 0 0) (.slice none 0 0) 26)
  have Z1 := Lib.hid (QBox.second w (.cells #[.int .i64 r.room, .int .i64 r.fuse, .slice A n c, .slice B m d] 26) (.int .i64 0) (.int .i64 0) (.slice none 0 0) (.slice none 0 0) 26 (quiet_int _) (quiet_int _) (quiet_sl _ _ _) (quiet_sl _ _ _))
  have HD : Hid (syncD r = if r.ok then (if r.fuse = 0 then r else ⟨r.room, burnF r.fuse, r.seen, []⟩) else DD.zero) := Lib.hid rfl
  have HC : Hid (syncC r = if r.ok then (if r.fuse = 0 then 2 else 0) else 1) := Lib.hid rfl
  generalize syncD r = sd at HD ⊢
  generalize syncC r = sc at HC ⊢
  clear h
  go_enter Try.func50, Try.ntmps50
  go_wp2_with fail
  refine (C1.out _ (below_a2 _ _ _)).mono ?_
  rintro e w1 ⟨rfl, hb1⟩
  have HB1 := Lib.hid (below_chain (below_a2 w _ _) hb1)
  have G0 := Lib.hid (F0.out.below hb1)
  have G1 := Lib.hid (F1.out.below hb1)
  have Z2 := Lib.hid (Z1.out.below hb1)
  clear hb1 F0 F1 Z1
  obtain ⟨⟨l0, x00, x01, x02, x03⟩, fr0⟩ := G0.out
  obtain ⟨⟨l1, x10, x11, x12, x13⟩, fr1⟩ := G1.out
  have fr10 := fr1 0
  have fr11 := fr1 1
  have fr12 := fr1 2
  have fr13 := fr1 3
  clear fr0 fr1
  cases hr : r.ok with
  | false =>
    have e1 : sc = 1 := by rw [HC.out, hr]; rfl
    have e2 : sd = DD.zero := by rw [HD.out, hr]; rfl
    subst e1
    have HE2 := Lib.hid e2
    clear e2 HC HD
    go_wp2
    refine bodyPost_ret (v := .tuple #[.agg #[.int .i64 0, .int .i64 0, .slice none 0 0, .slice none 0 0], .int .i64 1]) (by simp [results, Try.results50, go_sem, x10, x11, x12, x13]) rfl ?_
    rw [HE2.out]
    exact ⟨none, 0, 0, none, 0, 0, [], [], rfl, rfl, rfl, SlF.nil, SlO.nil, below_out4 HB1.out (by omega) _ _ _ _⟩
  | true =>
    obtain ⟨r0, r1, f0, f1, _, _⟩ := HL.out hr
    by_cases hf0 : r.fuse = 0
    · have e1 : sc = 2 := by rw [HC.out, hr, if_pos rfl, if_pos hf0]
      have e2 : sd = r := by rw [HD.out, hr, if_pos rfl, if_pos hf0]
      have hd0 : (r.fuse == 0) = true := by simp [hf0]
      subst e1
      have HE2 := Lib.hid e2
      clear e2 HC HD hf0
      go_wp2_with fail
      refine (CC.out _ HB1.out).mono ?_
      rintro e w3 ⟨A1, c1, B1, d1, es1, os1, rfl, hf1, ho1, hd1, hb3⟩
      have HB3 := Lib.hid (below_chain HB1.out hb3)
      have J1 := Lib.hid (G1.out.below hb3)
      have HF1 := Lib.hid hf1
      have HO1 := Lib.hid ho1
      have HD1 := Lib.hid hd1
      have hle : w.heap.size + 1 < w1.heap.size := l1
      clear hb3 hf1 ho1 hd1 l1 x10 x11 x12 x13 l0 x00 x01 x02 x03 fr10 fr11 fr12 fr13
      obtain ⟨⟨l1, x10, x11, x12, x13⟩, fr1⟩ := J1.out
      have fr10 := fr1 0
      have fr11 := fr1 1
      have fr12 := fr1 2
      have fr13 := fr1 3
      clear fr1
      go_wp2
      refine bodyPost_ret (v := .tuple #[.agg #[.int .i64 r.room, .int .i64 r.fuse, .slice A1 es1.length c1, .slice B1 os1.length d1], .int .i64 2]) (by simp [results, Try.results50, go_sem, x10, x11, x12, x13]) rfl ?_
      rw [HE2.out]
      exact seeD_own (r := r) (HD1.out.out4 hle _ _ _ _) HF1.out HO1.out (below_out4 HB3.out (by omega) _ _ _ _)
    · have e1 : sc = 0 := by rw [HC.out, hr, if_pos rfl, if_neg hf0]
      have e2 : sd = ⟨r.room, burnF r.fuse, r.seen, []⟩ := by rw [HD.out, hr, if_pos rfl, if_neg hf0]
      have hd0 : (r.fuse == 0) = false := by simp [hf0]
      subst e1
      have HE2 := Lib.hid e2
      have HNZ := Lib.hid hf0
      clear e2 HC HD hf0
      go_upto_region 5 with fail
      go_cut [4] (fun s4 wx => ∃ (p : Nat) (A5 : Option Addr) (c5 : Nat) (es5 : List Ent), s4 = .pointer (some ⟨p, 0, none⟩) ∧ Hid (FBox wx p (.int .i64 r.room) (.int .i64 r.fuse) (.slice A5 es5.length c5) (.slice none 0 0)) ∧ Hid (QBox wx p) ∧ w.heap.size + 1 < p ∧ Hid (SlF wx A5 es5.length es5) ∧ Hid (es5.map Ent.file = r.seen) ∧ Hid (Below w.heap.size w wx) ∧ Hid (FBox wx (w.heap.size + 1) (.int .i64 0) (.int .i64 0) (.slice none 0 0) (.slice none 0 0)) ∧ Hid (QBox wx (w.heap.size + 1)))
      case first =>
        have ZN := Lib.hid (FBox.new w1 (.int .i64 0) (.int .i64 0) (.slice none 0 0) (.slice none 0 0) 26)
        have QN := Lib.hid (QBox.new w1 (.int .i64 0) (.int .i64 0) (.slice none 0 0) (.slice none 0 0) 26 (quiet_int _) (quiet_int _) (quiet_sl _ _ _) (quiet_sl _ _ _))
        go_region_held3 (fun W => W.cell? ⟨w.heap.size, 0, none⟩ = some (.int .i64 r.room) ∧ W.cell? ⟨w.heap.size, 1, none⟩ = some (.int .i64 r.fuse) ∧ W.cell? ⟨w.heap.size, 2, none⟩ = some (.slice A n c) ∧ W.cell? ⟨w.heap.size, 3, none⟩ = some (.slice B m d))
          (first
            | (exact ⟨y00, y01, y02, y03⟩)
            | (exact ⟨YY.out.box.c0, YY.out.box.c1, YY.out.box.c2, YY.out.box.c3⟩)
            | go_keep)
          (first
          | (go_at_call 23; ((with_reducible refine (CS.out _ (by first | exact HB1.out | exact HB1.out.drew)).mono ?_)); rintro e1 w5 ⟨A5, c5, es5, rfl, hf5, hs5, hb5⟩; have HB5 : Hid (Below w1.heap.size w1 w5) := Lib.hid (by first | exact hb5 | exact ⟨hb5.os, hb5.tape, hb5.output, hb5.size, hb5.block⟩); obtain ⟨⟨k0, y00, y01, y02, y03⟩, gr0⟩ := G0.out.below HB5.out; clear gr0)
          | (go_at_call 23; ((with_reducible refine (CS.out _ (by first | exact HB1.out.alloc HB1.out.size _ | exact (HB1.out.alloc HB1.out.size _).drew)).mono ?_)); rintro e1 w5 ⟨A5, c5, es5, rfl, hf5, hs5, hb5⟩; have HB6 : Hid (Below (w1.alloc (.cells #[.int .i64 0, .int .i64 0, .slice none 0 0, .slice none 0 0] 26)).heap.size (w1.alloc (.cells #[.int .i64 0, .int .i64 0, .slice none 0 0, .slice none 0 0] 26)) w5) := Lib.hid (by first | exact hb5 | exact ⟨hb5.os, hb5.tape, hb5.output, hb5.size, hb5.block⟩); have HB5 : Hid (Below w1.heap.size w1 w5) := Lib.hid (below_chain (below_a1 w1 _) HB6.out); have ZN5 := Lib.hid (ZN.out.below HB6.out); have QN5 := Lib.hid (QN.out.below HB6.out); obtain ⟨⟨k0, y00, y01, y02, y03⟩, gr0⟩ := G0.out.below HB5.out; clear gr0; obtain ⟨⟨m0, z00, z01, z02, z03⟩, hr0⟩ := ZN5.out; have hr00 := hr0 0; have hr01 := hr0 1; have hr02 := hr0 2; have hr03 := hr0 3; clear hr0; have YY := Lib.hid ((G0.out.below HB5.out).far4 (p := w1.heap.size) (by omega) (.int .i64 r.room) (.int .i64 r.fuse) (.slice A5 es5.length c5) (.slice none 0 0))))
        · go_wp2_with fail
          go_meet
          exact ⟨w5.heap.size, A5, c5, es5, rfl, Lib.hid (FBox.new w5 _ _ _ _ _), Lib.hid (QBox.new w5 _ _ _ _ _ (quiet_int _) (quiet_int _) (quiet_sl _ _ _) (quiet_sl _ _ _)), by have := HB5.out.size; omega, Lib.hid (hs5.below (below_a1 w5 _)), Lib.hid hf5, Lib.hid (below_chain (below_chain HB1.out HB5.out) (below_a1 w5 _)), Lib.hid ((G1.out.below HB5.out).alloc _), Lib.hid ((Z2.out.below HB5.out).below (below_a1 w5 _))⟩
        · go_wp2_with fail
          go_meet
          exact ⟨w1.heap.size, A5, c5, es5, rfl, Lib.hid (ZN5.out.out4 _ _ _ _), Lib.hid (QN5.out.out4 (quiet_int _) (quiet_int _) (quiet_sl _ _ _) (quiet_sl _ _ _)), l1, Lib.hid (hs5.off QN5.out (OffB.out4 w5 _ _ _ _ _)), Lib.hid hf5, Lib.hid (below_out4 (below_chain HB1.out HB5.out) (by omega) _ _ _ _), Lib.hid ((G1.out.below HB5.out).far4 (by omega) _ _ _ _), Lib.hid ((Z2.out.below HB5.out).offB (OffB.out4 w5 _ _ _ _ _) (by omega))⟩
      case rest =>
        obtain ⟨p, A5, c5, es5, rfl, hx, hq, hp, hsl, hfs, hbel, hx1, hq1⟩ := hcut
        clear l0 x00 x01 x02 x03 l1 x10 x11 x12 x13 fr10 fr11 fr12 fr13
        obtain ⟨⟨l0, x00, x01, x02, x03⟩, fr0⟩ := hx.out
        obtain ⟨⟨l1, x10, x11, x12, x13⟩, fr1⟩ := hx1.out
        have fr01 := fr0 1
        have fr10 := fr1 0
        have fr11 := fr1 1
        have fr12 := fr1 2
        have fr13 := fr1 3
        clear fr0 fr1
        by_cases hpos : 0 < r.fuse
        · have hb : burnF r.fuse = r.fuse - 1 := by unfold burnF; rw [if_pos hpos]
          have HBU := Lib.hid hb
          have hxx := (hx1.out.far (p := ⟨p, 1, none⟩) (by show w.heap.size + 1 ≠ p; omega) (.int .i64 (r.fuse - 1)))
          have HXX := Lib.hid hxx
          clear hb hxx
          go_wp2
          refine bodyPost_ret (v := .tuple #[.agg #[.int .i64 r.room, .int .i64 (r.fuse - 1), .slice A5 es5.length c5, .slice none 0 0], .int .i64 0]) (by simp [results, Try.results50, go_sem, HXX.out.box.c0, HXX.out.box.c1, HXX.out.box.c2, HXX.out.box.c3]) rfl ?_
          rw [HE2.out, HBU.out]
          have hq3 := hq1.out.offB (OffB.one wc p 1 (.int .i64 (r.fuse - 1))) (by omega)
          exact ⟨A5, es5.length, c5, none, 0, 0, es5, [], rfl, hfs.out, rfl, (hsl.out.off hq.out (OffB.one wc p 1 _)).off hq3 (OffB.out4 _ _ _ _ _ _), SlO.nil, below_out4 (hbel.out.setCell (p := ⟨p, 1, none⟩) (by show w.heap.size ≤ p; omega) _) (by omega) _ _ _ _⟩
        · have hb : burnF r.fuse = r.fuse := by unfold burnF; rw [if_neg hpos]
          have HBU := Lib.hid hb
          clear hb
          go_wp2
          refine bodyPost_ret (v := .tuple #[.agg #[.int .i64 r.room, .int .i64 r.fuse, .slice A5 es5.length c5, .slice none 0 0], .int .i64 0]) (by simp [results, Try.results50, go_sem, x10, x11, x12, x13]) rfl ?_
          rw [HE2.out, HBU.out]
          exact ⟨A5, es5.length, c5, none, 0, 0, es5, [], rfl, hfs.out, rfl, hsl.out.off hq1.out (OffB.out4 _ _ _ _ _ _), SlO.nil, below_out4 hbel.out (by omega) _ _ _ _⟩

theorem burnt_any (f : Int) (w : World) (h1 : -1 ≤ f) (h2 : f ≤ 2000) :
    Calls Try.prog 63 #[.int .i64 f] w fun e w' => e = .returned (.int .i64 (burnF f)) ∧ w = w' := by
  by_cases hpos : 0 < f
  · have hb : burnF f = f - 1 := by unfold burnF; rw [if_pos hpos]
    rw [hb]
    clear hb
    go_enter Try.func63, Try.ntmps63
    go_wp2
    go_ret
    exact ⟨rfl, rfl⟩
  · have hb : burnF f = f := by unfold burnF; rw [if_neg hpos]
    rw [hb]
    clear hb
    go_enter Try.func63, Try.ntmps63
    go_wp2
    go_ret
    exact ⟨rfl, rfl⟩

set_option maxRecDepth 10000 in
set_option maxHeartbeats 4000000 in
theorem implSync (r : DD) (A : Option Addr) (n c : Nat) (B : Option Addr) (m d : Nat) (es : List Ent) (os : List OpE) (w : World) (h : Meant w r A n B m es os) :
    Calls Try.prog 24 #[.agg #[.int .i64 r.room, .int .i64 r.fuse, .slice A n c, .slice B m d]] w (ResD w (syncD r) (.int .i64 (syncC r))) := by
  have CV := Lib.hid (fun W (hb : Below w.heap.size w W) => (h.below hb).vis c d)
  have CC := Lib.hid (fun W (hb : Below w.heap.size w W) => (h.below hb).implCopy c d)
  have HL := Lib.hid (fun hok => DD.ok_lim (r := r) hok)
  have HW := Lib.hid h.wt
  have F0 := Lib.hid ((FBox.new w (.int .i64 r.room) (.int .i64 r.fuse) (.slice A n c) (.slice B m d) 26).alloc (.cells #[.int .i64 0, .int .i64 0, .slice none 0 0, .slice none 0 0] 26))
  have F1 := Lib.hid (FBox.second w (.cells #[.int .i64 r.room, .int .i64 r.fuse, .slice A n c, .slice B m d] 26) (.int .i64 0) (.int .i64 0) (.slice none 0 0) (.slice none 0 0) 26)
  have HD : Hid (syncD r = if r.ok then (if r.fuse = 0 then r else ⟨r.room, burnF r.fuse, r.seen, []⟩) else DD.zero) := Lib.hid rfl
  have HC : Hid (syncC r = if r.ok then (if r.fuse = 0 then 2 else 0) else 1) := Lib.hid rfl
  generalize syncD r = sd at HD ⊢
  generalize syncC r = sc at HC ⊢
  clear h
  go_enter Try.func24, Try.ntmps24
  go_wp2_with fail
  refine (CV.out _ (below_a2 _ _ _)).mono ?_
  rintro e w1 (⟨hok, rfl, hb1⟩ | ⟨hok, mb, es1, rfl, hf1, hm1, hb1⟩)
  · have HB1 := Lib.hid (below_chain (below_a2 w _ _) hb1)
    obtain ⟨⟨l1, x10, x11, x12, x13⟩, fr1⟩ := F1.out.below hb1
    have fr10 := fr1 0
    have fr11 := fr1 1
    have fr12 := fr1 2
    have fr13 := fr1 3
    have e1 : sc = 1 := by rw [HC.out, hok]; rfl
    have e2 : sd = DD.zero := by rw [HD.out, hok]; rfl
    subst e1
    have HE2 := Lib.hid e2
    clear e2 HC HD fr1 hb1 hok
    go_wp2
    refine bodyPost_ret (v := .tuple #[.agg #[.int .i64 0, .int .i64 0, .slice none 0 0, .slice none 0 0], .int .i64 1]) (by simp [results, Try.results24, go_sem, x10, x11, x12, x13]) rfl ?_
    rw [HE2.out]
    exact ⟨none, 0, 0, none, 0, 0, [], [], rfl, rfl, rfl, rfl, rfl, OwnD.nil, below_out4 HB1.out (by omega) _ _ _ _⟩
  · have HB1 := Lib.hid (below_chain (below_a2 w _ _) hb1)
    have G0 := Lib.hid (F0.out.below hb1)
    have G1 := Lib.hid (F1.out.below hb1)
    have hfine := hm1.fine hf1 HW.out
    have CS := Lib.hid (fun W (hb : Below w1.heap.size w1 W) => implSorted _ mb es1 W (hm1.below hb) hfine.1 hfine.2)
    have HF := Lib.hid hf1
    clear hb1 F0 F1 hfine hf1 hm1
    obtain ⟨⟨l0, x00, x01, x02, x03⟩, fr0⟩ := G0.out
    obtain ⟨⟨l1, x10, x11, x12, x13⟩, fr1⟩ := G1.out
    have fr10 := fr1 0
    have fr11 := fr1 1
    have fr12 := fr1 2
    have fr13 := fr1 3
    clear fr0 fr1
    obtain ⟨r0, r1, f0, f1, _, _⟩ := HL.out hok
    by_cases hf0 : r.fuse = 0
    · have e1 : sc = 2 := by rw [HC.out, hok, if_pos rfl, if_pos hf0]
      have e2 : sd = r := by rw [HD.out, hok, if_pos rfl, if_pos hf0]
      have hd0 : (r.fuse == 0) = true := by simp [hf0]
      subst e1
      have HE2 := Lib.hid e2
      clear e2 HC HD hf0 hok
      go_wp2_with fail
      refine (CC.out _ HB1.out).mono ?_
      rintro e w3 ⟨A1, c1, B1, d1, es2, os1, rfl, hf1, ho1, hd1, hb3⟩
      have HB3 := Lib.hid (below_chain HB1.out hb3)
      have J1 := Lib.hid (G1.out.below hb3)
      have HF1 := Lib.hid hf1
      have HO1 := Lib.hid ho1
      have HD1 := Lib.hid hd1
      have hle : w.heap.size + 1 < w1.heap.size := l1
      clear hb3 hf1 ho1 hd1 l1 x10 x11 x12 x13 l0 x00 x01 x02 x03 fr10 fr11 fr12 fr13
      obtain ⟨⟨l1, x10, x11, x12, x13⟩, fr1⟩ := J1.out
      have fr10 := fr1 0
      have fr11 := fr1 1
      have fr12 := fr1 2
      have fr13 := fr1 3
      clear fr1
      go_wp2
      refine bodyPost_ret (v := .tuple #[.agg #[.int .i64 r.room, .int .i64 r.fuse, .slice A1 es2.length c1, .slice B1 os1.length d1], .int .i64 2]) (by simp [results, Try.results24, go_sem, x10, x11, x12, x13]) rfl ?_
      rw [HE2.out]
      exact resD_own (r := r) (HD1.out.out4 hle _ _ _ _) (by omega) HF1.out HO1.out (below_out4 HB3.out (by omega) _ _ _ _)
    · have e1 : sc = 0 := by rw [HC.out, hok, if_pos rfl, if_neg hf0]
      have e2 : sd = ⟨r.room, burnF r.fuse, r.seen, []⟩ := by rw [HD.out, hok, if_pos rfl, if_neg hf0]
      have hd0 : (r.fuse == 0) = false := by simp [hf0]
      have CB := Lib.hid (fun W => burnt_any r.fuse W f0 f1)
      subst e1
      have HE2 := Lib.hid e2
      clear e2 HC HD hf0 hok
      generalize burnF r.fuse = bf at CB HE2
      go_wp2
      go_region_held3 (fun W => W.cell? ⟨w.heap.size, 0, none⟩ = some (.int .i64 r.room) ∧ W.cell? ⟨w.heap.size, 1, none⟩ = some (.int .i64 r.fuse))
        (first
          | (exact ⟨y00, y01⟩)
          | (exact ⟨YY.out.box.c0, YY.out.box.c1⟩)
          | go_keep)
        (first
          | (go_at_call 63; ((with_reducible refine (CB.out _).mono ?_)); rintro e1 w4 ⟨rfl, rfl⟩)
          | (go_at_call 71; ((with_reducible refine (CS.out _ (by first | exact Below.refl _ _ | exact (Below.refl _ _).drew)).mono ?_)); rintro e1 w5 ⟨A5, c5, es5, rfl, hf5, ho5, hb5⟩; have HB5 : Hid (Below w1.heap.size w1 w5) := Lib.hid (by first | exact hb5 | exact ⟨hb5.os, hb5.tape, hb5.output, hb5.size, hb5.block⟩); have K1 := Lib.hid (G1.out.below HB5.out); obtain ⟨⟨k0, y00, y01, y02, y03⟩, gr0⟩ := G0.out.below HB5.out; obtain ⟨⟨m1, z10, z11, z12, z13⟩, hr1⟩ := K1.out; have hr10 := hr1 0; have hr11 := hr1 1; have hr12 := hr1 2; have hr13 := hr1 3; clear hr1 gr0; have YY := Lib.hid ((G0.out.below HB5.out).far4 (p := w.heap.size + 1) (by omega) (.int .i64 r.room) (.int .i64 bf) (.slice A5 es5.length c5) (.slice none 0 0))))
      all_goals
        go_wp2
        refine bodyPost_ret (v := .tuple #[.agg #[.int .i64 r.room, .int .i64 bf, .slice A5 es5.length c5, .slice none 0 0], .int .i64 0]) (by simp [results, Try.results24, go_sem, z10, z11, z12, z13]) rfl ?_
        rw [HE2.out]
        have ho6 : OwnF w5 w1.heap.size A5 c5 es5 := ho5
        have hod : OwnD w5 w1.heap.size A5 c5 none 0 es5 [] := ⟨ho6, OwnO.nil, by simp⟩
        exact resD_own (r := ⟨r.room, bf, r.seen, []⟩) (hod.out4 l1 _ _ _ _) (by omega) (hf5.trans HF.out) rfl (below_out4 (below_chain HB1.out HB5.out) (by omega) _ _ _ _)
end Go.Proofs.Ytfcomnpoehpgiaa
