/- The contract of the draw of a disk: a valid disk whose waiting operations append at most eight bytes each. -/
import Derived.Test.YtejibpajjoaldaaKDrawOp
import Derived.Test.YtejibpajjoaldaaKDrawCut
import Derived.Test.YtejibpajjoaldaaKSpecDoC
import Derived.Test.YtejibpajjoaldaaKSyncC
import Derived.Test.YtejibpajjoaldaaKDiskLaw
namespace Go.Proofs.Ytejibpajjoaldaa
open Go.RowKit Go.Maps

/-- Old blocks but one are as they were. -/
structure OffG (b : Nat) (w w' : World) : Prop where
  size : w.heap.size ≤ w'.heap.size
  block : ∀ k, k < w.heap.size → k ≠ b → w'.heap[k]? = w.heap[k]?
theorem OffG.of_grown {b : Nat} {w w' : World} (h : w.grownBy w' (some b)) : OffG b w w' := ⟨h.size, fun k hk hn => h.block k hk (fun e => by injection e with e; exact hn e)⟩
theorem OffG.set (w : World) (b i : Nat) (u : Value) : OffG b w (w.setCell ⟨b, i, none⟩ u) := ⟨by simp, fun k _ hk => Below.heap_setCell _ _ _ _ hk⟩
theorem OffG.set4 (w : World) (b : Nat) (u0 u1 u2 u3 : Value) : OffG b w ((((w.setCell ⟨b, 0, none⟩ u0).setCell ⟨b, 1, none⟩ u1).setCell ⟨b, 2, none⟩ u2).setCell ⟨b, 3, none⟩ u3) :=
  ⟨by simp, fun k _ hk => by rw [Below.heap_setCell _ _ _ _ hk, Below.heap_setCell _ _ _ _ hk, Below.heap_setCell _ _ _ _ hk, Below.heap_setCell _ _ _ _ hk]⟩
section
variable {w w' : World} {b n : Nat} {A : Option Addr} {xs : List Nat} {es : List Ent} {os : List OpE}
theorem Rd.offG (h : Rd w A n xs) (hz : QBox w b) (ho : OffG b w w') : Rd w' A n xs :=
  ⟨h.len, h.small, fun hn => by
    obtain ⟨b', off, e, hb, hc⟩ := h.lies hn
    have hl : 0 < xs.length := by have := h.len; omega
    have hne : b' ≠ b := fun hh => by
      subst hh
      exact (hz.at_ (hc 0 xs[0] (List.getElem?_eq_getElem hl))).byte
    have := ho.size
    exact ⟨b', off, e, by omega, fun j x hx => (World.cell?_of_block (a := ⟨b', off + j, none⟩) (ho.block b' hb hne)).trans (hc j x hx)⟩⟩
theorem Dat.Ok.offG {d : Dat} (h : d.Ok w) (hz : QBox w b) (ho : OffG b w w') : d.Ok w' := ⟨h.rd.offG hz ho, h.cap⟩
theorem SlF.offG (h : SlF w A n es) (hz : QBox w b) (ho : OffG b w w') : SlF w' A n es := by
  refine ⟨h.len, ⟨h.row.len, fun hn => ?_⟩, fun e he => (h.each e he).offG hz ho⟩
  obtain ⟨b', off, e, hb, hc⟩ := h.row.lies hn
  obtain ⟨b2, off2, x, e2, _, _, _, c0, _⟩ := h.at_ hn
  obtain ⟨rfl, rfl⟩ : b' = b2 ∧ off = off2 := by
    rw [e] at e2
    injection e2 with h2
    injection h2 with h3 h4
    exact ⟨h3, h4⟩
  have hne : b' ≠ b := fun hh => by
    subst hh
    exact (hz.at_ c0).str
  have := ho.size
  exact ⟨b', off, e, by omega, fun j u hu => (World.cell?_of_block (a := ⟨b', off + j, none⟩) (ho.block b' hb hne)).trans (hc j u hu)⟩
theorem SlO.offG (h : SlO w A n os) (hz : QBox w b) (ho : OffG b w w') : SlO w' A n os := by
  refine ⟨h.len, ⟨h.row.len, fun hn => ?_⟩, fun e he => (h.each e he).offG hz ho⟩
  obtain ⟨b', off, e, hb, hc⟩ := h.row.lies hn
  obtain ⟨b2, off2, x, e2, _, _, _, _, c1, _⟩ := h.at_ hn
  obtain ⟨rfl, rfl⟩ : b' = b2 ∧ off = off2 := by
    rw [e] at e2
    injection e2 with h2
    injection h2 with h3 h4
    exact ⟨h3, h4⟩
  have hne : b' ≠ b := fun hh => by
    subst hh
    exact (hz.at_ c1).str
  have := ho.size
  exact ⟨b', off, e, by omega, fun j u hu => (World.cell?_of_block (a := ⟨b', off + j, none⟩) (ho.block b' hb hne)).trans (hc j u hu)⟩
end
theorem Blk.quiet {w : World} {b : Nat} {t : TypeId} {v0 v1 v2 v3 : Value} (h : Blk w b #[v0, v1, v2, v3] t) (h0 : Quiet v0) (h1 : Quiet v1) (h2 : Quiet v2) (h3 : Quiet v3) : QBox w b :=
  ⟨_, t, h, fun v hm => by
    simp at hm
    rcases hm with rfl | rfl | rfl | rfl
    · exact h0
    · exact h1
    · exact h2
    · exact h3⟩
theorem Blk.put4 {w : World} {b : Nat} {t : TypeId} {v0 v1 v2 v3 : Value} (h : Blk w b #[v0, v1, v2, v3] t) (u0 u1 u2 u3 : Value) : Blk ((((w.setCell ⟨b, 0, none⟩ u0).setCell ⟨b, 1, none⟩ u1).setCell ⟨b, 2, none⟩ u2).setCell ⟨b, 3, none⟩ u3) b #[u0, u1, u2, u3] t :=
  (((h.set 0 u0).set 1 u1).set 2 u2).set 3 u3
theorem Cur.quiet {w : World} {g : Nat} {A : Option Addr} {n c : Nat} {xs : List Nat} (h : Cur w g A n c xs) : QBox w g := by
  obtain ⟨i, hh, _, _, hc⟩ := h.cells
  exact ⟨_, _, hc, fun v hm => by
    simp at hm
    rcases hm with rfl | rfl | rfl
    · exact quiet_sl _ _ _
    · exact quiet_int _
    · exact quiet_int _⟩
/-- What stands while a disk is drawn: the answer's block, the disk's block and what it reads, the cursor. -/
structure DSt (w wr : World) (g : Nat) (A0 : Option Addr) (n0 c0 : Nat) (xs : List Nat) (p : Nat) (r : DD) (A : Option Addr) (n c : Nat) (B : Option Addr) (m d : Nat) (es : List Ent) (os : List OpE) : Prop where
  box : Blk wr p #[.int .i64 r.room, .int .i64 r.fuse, .slice A n c, .slice B m d] 26
  res : Blk wr w.heap.size #[.int .i64 0, .int .i64 0, .slice none 0 0, .slice none 0 0] 26
  f : SlF wr A n es
  o : SlO wr B m os
  hf : es.map Ent.file = r.fs
  ho : os.map OpE.op = r.ops
  cap : m ≤ d
  nice : Nice r
  cu : Cur wr g A0 n0 c0 xs
  gr : w.grownBy wr (some g)
  lp : w.heap.size < p
  lg : g < w.heap.size
  hA : 0 < n0 → ∀ b off sp, A0 = some ⟨b, off, sp⟩ → b < w.heap.size
section
variable {w wr w5 : World} {g n0 c0 p n c m d : Nat} {A0 A B : Option Addr} {xs : List Nat} {r : DD} {es : List Ent} {os : List OpE}
theorem DSt.meant (h : DSt w wr g A0 n0 c0 xs p r A n c B m d es os) : Meant wr r A n B m es os := ⟨h.f, h.o, h.hf, h.ho, h.nice.weight⟩
theorem DSt.drew (h : DSt w wr g A0 n0 c0 xs p r A n c B m d es os) : DSt w wr.drew g A0 n0 c0 xs p r A n c B m d es os :=
  have hb : Below wr.heap.size wr wr.drew := below_drewN (Below.refl _ _) 1
  ⟨h.box, h.res, h.f.below hb, h.o.below hb, h.hf, h.ho, h.cap, h.nice, h.cu.grow hb, grownBy_trans h.gr (grownBy_of_below hb _), h.lp, h.lg, h.hA⟩
theorem DSt.call (h : DSt w wr g A0 n0 c0 xs p r A n c B m d es os) (hc : Cur w5 g A0 n0 c0 xs) (hg : wr.grownBy w5 (some g)) : DSt w w5 g A0 n0 c0 xs p r A n c B m d es os := by
  have h1 := h.lg
  have h2 := h.lp
  exact ⟨blk_drawn h.box hg (by omega), blk_drawn h.res hg h1, h.f.offG h.cu.quiet (.of_grown hg), h.o.offG h.cu.quiet (.of_grown hg), h.hf, h.ho, h.cap, h.nice, hc, grownBy_trans h.gr hg, h2, h1, h.hA⟩
theorem DSt.below (h : DSt w wr g A0 n0 c0 xs p r A n c B m d es os) (hb : Below wr.heap.size wr w5) : DSt w w5 g A0 n0 c0 xs p r A n c B m d es os :=
  ⟨h.box.below hb, h.res.below hb, h.f.below hb, h.o.below hb, h.hf, h.ho, h.cap, h.nice, h.cu.grow hb, grownBy_trans h.gr (grownBy_of_below hb _), h.lp, h.lg, h.hA⟩
theorem DSt.quiet (h : DSt w wr g A0 n0 c0 xs p r A n c B m d es os) : QBox wr p := h.box.quiet (quiet_int _) (quiet_int _) (quiet_sl _ _ _) (quiet_sl _ _ _)
/-- Another disk is stored. -/
theorem DSt.put {r' : DD} {A' B' : Option Addr} {n' c' m' d' : Nat} {es' : List Ent} {os' : List OpE} (h : DSt w wr g A0 n0 c0 xs p r A n c B m d es os) (hn : Nice r') (hf : SlF wr A' n' es') (ho : SlO wr B' m' os') (h1 : es'.map Ent.file = r'.fs) (h2 : os'.map OpE.op = r'.ops) (hc : m' ≤ d') :
    DSt w ((((wr.setCell ⟨p, 0, none⟩ (.int .i64 r'.room)).setCell ⟨p, 1, none⟩ (.int .i64 r'.fuse)).setCell ⟨p, 2, none⟩ (.slice A' n' c')).setCell ⟨p, 3, none⟩ (.slice B' m' d')) g A0 n0 c0 xs p r' A' n' c' B' m' d' es' os' := by
  have l1 := h.lg
  have l2 := h.lp
  have hoff := OffG.set4 wr p (.int .i64 r'.room) (.int .i64 r'.fuse) (.slice A' n' c') (.slice B' m' d')
  refine ⟨h.box.put4 _ _ _ _, ?_, hf.offG h.quiet hoff, ho.offG h.quiet hoff, h1, h2, hc, hn, ?_, ?_, l2, l1, h.hA⟩
  · exact (((h.res.other (p := ⟨p, 0, none⟩) (by show w.heap.size ≠ p; omega) _).other (p := ⟨p, 1, none⟩) (by show w.heap.size ≠ p; omega) _).other (p := ⟨p, 2, none⟩) (by show w.heap.size ≠ p; omega) _).other (p := ⟨p, 3, none⟩) (by show w.heap.size ≠ p; omega) _
  · exact (((h.cu.put l1 (Nat.le_of_lt l2) h.hA 0 _).put l1 (Nat.le_of_lt l2) h.hA 1 _).put l1 (Nat.le_of_lt l2) h.hA 2 _).put l1 (Nat.le_of_lt l2) h.hA 3 _
  · exact grown_put (grown_put (grown_put (grown_put h.gr (Nat.le_of_lt l2) 0 _) (Nat.le_of_lt l2) 1 _) (Nat.le_of_lt l2) 2 _) (Nat.le_of_lt l2) 3 _
/-- Another fuse is stored. -/
theorem DSt.fuse (h : DSt w wr g A0 n0 c0 xs p r A n c B m d es os) {f : Int} (h1 : -1 ≤ f) (h2 : f ≤ 2000) :
    DSt w (wr.setCell ⟨p, 1, none⟩ (.int .i64 f)) g A0 n0 c0 xs p ⟨r.room, f, r.fs, r.ops⟩ A n c B m d es os := by
  have l1 := h.lg
  have l2 := h.lp
  exact ⟨h.box.set 1 _, h.res.other (p := ⟨p, 1, none⟩) (by show w.heap.size ≠ p; omega) _, h.f.offG h.quiet (OffG.set wr p 1 _), h.o.offG h.quiet (OffG.set wr p 1 _), h.hf, h.ho, h.cap, h.nice.fuse h1 h2, h.cu.put l1 (Nat.le_of_lt l2) h.hA 1 _, grown_put h.gr (Nat.le_of_lt l2) 1 _, l2, l1, h.hA⟩
theorem DSt.do (h : DSt w wr g A0 n0 c0 xs p r A n c B m d es os) (o : OpE) (ho : o.d.Ok wr) (hs : o.nm.size ≤ 12 ∧ o.to.size ≤ 12 ∧ o.d.n ≤ 8) :
    Calls Try.prog 11 #[.agg #[.int .i64 r.room, .int .i64 r.fuse, .slice A n c, .slice B m d], .agg #[.int .i64 o.kind, .string o.nm, .string o.to, .slice o.d.A o.d.n o.d.c]] wr (SeeC wr (doA r o.op).1 (.int .i64 (doA r o.op).2)) :=
  specDoC r o A n c B m d es os wr h.meant h.cap ho (by omega)
theorem DSt.sync (h : DSt w wr g A0 n0 c0 xs p r A n c B m d es os) :
    Calls Try.prog 72 #[.agg #[.int .i64 r.room, .int .i64 r.fuse, .slice A n c, .slice B m d]] wr (SeeC wr (syncD r) (.int .i64 (syncC r))) :=
  specSyncC r A n c B m d es os wr h.meant h.cap
end
theorem drawn_size {s : ByteArray} (h : s ∈ drawnNames) : s.size ≤ 12 := by
  simp only [drawnNames, List.mem_cons, List.not_mem_nil, or_false] at h
  rcases h with rfl | rfl | rfl | rfl | rfl | rfl <;> decide
def roomNums : List Int := [0, 9, 30, 60, 200, 200000]
theorem rooms_row (w : World) (t : TypeId) : SlI (w.alloc (.cells #[.int .i64 0, .int .i64 9, .int .i64 30, .int .i64 60, .int .i64 200, .int .i64 200000] t)) (some ⟨w.heap.size, 0, none⟩) 6 roomNums := by
  refine ⟨rfl, ⟨rfl, fun _ => ⟨w.heap.size, 0, rfl, by simp, fun j u hu => ?_⟩⟩⟩
  rw [Nat.zero_add]
  match j, hu with
  | 0, hu => simp [vi, roomNums] at hu; subst hu; simp
  | 1, hu => simp [vi, roomNums] at hu; subst hu; simp
  | 2, hu => simp [vi, roomNums] at hu; subst hu; simp
  | 3, hu => simp [vi, roomNums] at hu; subst hu; simp
  | 4, hu => simp [vi, roomNums] at hu; subst hu; simp
  | 5, hu => simp [vi, roomNums] at hu; subst hu; simp
theorem room_in {x : Int} (h : x ∈ roomNums) : 0 ≤ x ∧ x ≤ 200000 := by
  simp only [roomNums, List.mem_cons, List.not_mem_nil, or_false] at h
  omega
set_option maxHeartbeats 1000000 in
theorem newDisk (room : Int) (w : World) (h1 : 0 ≤ room) (h2 : room ≤ 200000) :
    Calls Try.prog 70 #[.int .i64 room] w fun e w' => e = .returned (.tuple #[.agg #[.int .i64 room, .int .i64 (-1), .slice none 0 0, .slice none 0 0], .bool true]) ∧ Below w.heap.size w w' := by
  go_enter Try.func70, Try.ntmps70
  go_wp2
  exact bodyPost_ret (v := .tuple #[.agg #[.int .i64 room, .int .i64 (-1), .slice none 0 0, .slice none 0 0], .bool true]) (by simp [results, Try.results70, go_sem]) rfl ⟨rfl, below_a1 _ _⟩
end Go.Proofs.Ytejibpajjoaldaa
