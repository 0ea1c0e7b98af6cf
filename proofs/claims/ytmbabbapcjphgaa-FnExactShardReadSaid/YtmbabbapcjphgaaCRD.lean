/- What stands while a shard is read: an offset in its variable, the last edge, the shard so far, the result's variable (plain lemmas; no condition). // The program's decoding of a shard. Condition: at most 2^21 bytes. -/
import Derived.Test.YtmbabbapcjphgaaValsM
import Derived.Test.YtmbabbapcjphgaaPackI
import Derived.Test.YtmbabbapcjphgaaSReadM
import Derived.Test.YtmbabbapcjphgaaPackRes
import Derived.Test.YtmbabbapcjphgaaShOkI
namespace Go.Proofs.Ytmbabbapcjphgaa
open Go.RowKit

structure RBk where
  gb : Nat
  ga : Nat
  bl : Nat
  bs : Nat
  br : Nat
  low : Nat
structure RBk.Ok (k : RBk) (w : World) : Prop where
  r : w.heap.size ≤ k.br
  b : k.br < k.gb
  a : k.gb < k.ga
  s : k.ga < k.bs
  l : k.bs < k.bl
  w : k.bl < k.low
structure RB (k : RBk) (w W : World) (A : Option Addr) (n c : Nat) (a : Int) (d : KE) (lo hi : Int) (A1 : Option Addr) (c1 : Nat) (ks : List KE) : Prop where
  u : UB W k.gb k.ga A n c a
  l : KBlk W k.bl d
  s : SBlk W k.bs lo hi A1 ks.length c1
  z : SBlk W k.br 0 0 none 0 0
  o : W.ownsRow k.low 77 5 (.slice A1 ks.length c1) ks.length (ks.flatMap KE.cells)
  b : Below w.heap.size w W
  g : k.low ≤ W.heap.size
section
variable {k : RBk} {w W : World} {A A1 : Option Addr} {n c c1 : Nat} {a lo hi : Int} {d : KE} {ks : List KE}
theorem RB.drew (h : RB k w W A n c a d lo hi A1 c1 ks) : RB k w W.drew A n c a d lo hi A1 c1 ks := ⟨⟨h.u.b, h.u.a⟩, h.l, h.s, h.z, h.o, h.b.drew, h.g⟩
theorem RB.ne (h : RB k w W A n c a d lo hi A1 c1 ks) {q : Nat} (hq : q < k.low) : (Value.slice A1 ks.length c1).ownBlock ≠ some q := fun e => by have := (h.o.lt q e).1; omega
theorem RB.pos (h : RB k w W A n c a d lo hi A1 c1 ks) (hk : k.Ok w) (p : Int) : RB k w (W.setCell ⟨k.ga, 0, none⟩ (.int .i64 p)) A n c p d lo hi A1 c1 ks :=
  have h1 := hk.r; have h2 := hk.b; have h3 := hk.a; have h4 := hk.s; have h5 := hk.l; have h6 := hk.w
  ⟨h.u.put (by omega) p, Blk.other h.l (p := ⟨k.ga, 0, none⟩) (Nat.ne_of_gt (by show k.ga < k.bl; omega)) _, Blk.other h.s (p := ⟨k.ga, 0, none⟩) (Nat.ne_of_gt (by show k.ga < k.bs; omega)) _, Blk.other h.z (p := ⟨k.ga, 0, none⟩) (Nat.ne_of_lt (by show k.br < k.ga; omega)) _, own_apart h.o (h.ne (by omega)), h.b.setCell (p := ⟨k.ga, 0, none⟩) (by show w.heap.size ≤ k.ga; omega) _, by simpa using h.g⟩
theorem RB.last (h : RB k w W A n c a d lo hi A1 c1 ks) (hk : k.Ok w) {i : Nat} {v : Value} {d2 : KE} (hd : #[Value.int .i64 d.f, .int .i64 d.t, .int .i64 d.w, .int .i64 d.i, .int .i64 d.v].setIfInBounds i v = #[.int .i64 d2.f, .int .i64 d2.t, .int .i64 d2.w, .int .i64 d2.i, .int .i64 d2.v]) : RB k w (W.setCell ⟨k.bl, i, none⟩ v) A n c a d2 lo hi A1 c1 ks :=
  have h1 := hk.r; have h2 := hk.b; have h3 := hk.a; have h4 := hk.s; have h5 := hk.l; have h6 := hk.w
  ⟨⟨h.u.b.other (p := ⟨k.bl, i, none⟩) (Nat.ne_of_lt (by show k.gb < k.bl; omega)) _, h.u.a.other (p := ⟨k.bl, i, none⟩) (Nat.ne_of_lt (by show k.ga < k.bl; omega)) _⟩, by have := Blk.set h.l i v; rw [hd] at this; exact this, Blk.other h.s (p := ⟨k.bl, i, none⟩) (Nat.ne_of_lt (by show k.bs < k.bl; omega)) _, Blk.other h.z (p := ⟨k.bl, i, none⟩) (Nat.ne_of_lt (by show k.br < k.bl; omega)) _, own_apart h.o (h.ne (by omega)), h.b.setCell (p := ⟨k.bl, i, none⟩) (by show w.heap.size ≤ k.bl; omega) _, by simpa using h.g⟩
theorem RB.below {W' : World} (h : RB k w W A n c a d lo hi A1 c1 ks) (hb : Below W.heap.size W W') : RB k w W' A n c a d lo hi A1 c1 ks := ⟨h.u.below hb, h.l.below hb, h.s.below hb, h.z.below hb, own_below h.o hb, g_chain h.b hb, Nat.le_trans h.g hb.size⟩
/-- An edge more: the row has grown, the shard's slice is written. -/
theorem RB.more {W2 : World} (h : RB k w W A n c a d lo hi A1 c1 ks) (hk : k.Ok w) {A4 : Option Addr} {c4 : Nat} (hg : W.grownBy W2 (Value.slice A1 ks.length c1).ownBlock) (ho : W2.ownsRow k.low 77 5 (.slice A4 (ks.length + 1) c4) (ks.length + 1) (ks.flatMap KE.cells ++ [.int .i64 d.f, .int .i64 d.t, .int .i64 d.w, .int .i64 d.i, .int .i64 d.v])) :
    RB k w (W2.setCell ⟨k.bs, 2, none⟩ (.slice A4 (ks.length + 1) c4)) A n c a d lo hi A4 c4 (ks ++ [d]) := by
  have h1 := hk.r; have h2 := hk.b; have h3 := hk.a; have h4 := hk.s; have h5 := hk.l; have h6 := hk.w
  have e1 : ks.length + 1 = (ks ++ [d]).length := by simp
  have u1 := h.u.b.grown hg (h.ne (by omega))
  have u2 := h.u.a.grown hg (h.ne (by omega))
  have u3 := Blk.grown h.l hg (h.ne (by omega))
  have u4 : SBlk W2 k.bs lo hi A1 ks.length c1 := Blk.grown h.s hg (h.ne (by omega))
  have u5 := Blk.grown h.z hg (h.ne (by omega))
  have n4 : (Value.slice A4 (ks.length + 1) c4).ownBlock ≠ some k.bs := fun e => by have := (ho.lt k.bs e).1; omega
  refine ⟨⟨u1.other (p := ⟨k.bs, 2, none⟩) (Nat.ne_of_lt (by show k.gb < k.bs; omega)) _, u2.other (p := ⟨k.bs, 2, none⟩) (Nat.ne_of_lt (by show k.ga < k.bs; omega)) _⟩, u3.other (p := ⟨k.bs, 2, none⟩) (Nat.ne_of_gt (by show k.bs < k.bl; omega)) _, ?_, u5.other (p := ⟨k.bs, 2, none⟩) (Nat.ne_of_lt (by show k.br < k.bs; omega)) _, ?_, (h.b.grown hg h.b.size (fun q hq => by have := (h.o.lt q hq).1; omega)).setCell (p := ⟨k.bs, 2, none⟩) (by show w.heap.size ≤ k.bs; omega) _, by have := h.g; have := hg.size; simp; omega⟩
  · rw [← e1]; exact SBlk.edges u4
  · rw [← e1, ke_flat]; exact own_apart ho n4
theorem RB.readVar {xs : List Nat} (h : RB k w W A n c a d lo hi A1 c1 ks) (hk : k.Ok w) (hr : Rd w A n xs) (hn : n ≤ 2097152) :
    Calls Try.prog 103 #[.func (.func 78) #[] #[], .pointer (some ⟨k.gb, 0, none⟩), .pointer (some ⟨k.ga, 0, none⟩)] W fun e w' => e = .returned (.int .i64 (gvN xs a n)) ∧ RB k w w' A n c (nxV xs a n) d lo hi A1 c1 ks := by
  refine (readVar_any (xs := xs) h.u (hr.below h.b) hn).mono ?_
  rintro e w' ⟨rfl, rfl⟩
  exact ⟨rfl, h.pos hk _⟩
theorem RB.readZig {xs : List Nat} (h : RB k w W A n c a d lo hi A1 c1 ks) (hk : k.Ok w) (hr : Rd w A n xs) (hn : n ≤ 2097152) :
    Calls Try.prog 103 #[.func (.func 79) #[] #[], .pointer (some ⟨k.gb, 0, none⟩), .pointer (some ⟨k.ga, 0, none⟩)] W fun e w' => e = .returned (.int .i64 (vZ xs a n)) ∧ RB k w w' A n c (nxV xs a n) d lo hi A1 c1 ks := by
  refine (readZig_any (xs := xs) h.u (hr.below h.b) hn).mono ?_
  rintro e w' ⟨rfl, rfl⟩
  exact ⟨rfl, h.pos hk _⟩
end
end Go.Proofs.Ytmbabbapcjphgaa
namespace Go.Proofs.Ytmbabbapcjphgaa
open Go.RowKit

theorem sread_end (lo hi : Int) (A1 : Option Addr) (n1 c1 : Nat) : (#[Value.int .i64 lo, .int .i64 hi, .slice A1 n1 c1] : Array Value) = #[.int .i64 lo, .int .i64 hi, .slice A1 n1 c1] := rfl

set_option maxRecDepth 20000 in
set_option maxHeartbeats 4000000 in
theorem implShardRead (A : Option Addr) (n c : Nat) (a : Int) (xs : List Nat) (w : World) (hr : Rd w A n xs) (hn : n ≤ 2097152) :
    Calls Try.prog 38 #[.slice A n c, .int .i64 a] w (MadeShP w (shrLo xs a n) (shrHi xs a n) (shrE xs a n) (shrP xs a n) (shrG xs a n)) := by
  obtain ⟨i0, hi0, hz0, hz1, hz2⟩ := info_parts Try.infoSEdge
  have HR := Lib.hid hr
  have CU := Lib.hid (fun W => unpacker_any A n c a W)
  have CR := Lib.hid (fun W g1 g2 p (h : UB W g1 g2 A n c p) (h2 : Rd W A n xs) => readVar_any (xs := xs) h h2 hn)
  have b1 := gvN_bounds xs a n
  have b2 := gvN_bounds xs (nxV xs a n) n
  have b3 := gvN_bounds xs (nxV xs (nxV xs a n) n) n
  have HRH : Hid (rdHead xs a n = ⟨gvN xs a n, gvN xs (nxV xs a n) n, gvN xs (nxV xs (nxV xs a n) n) n, ⟨nxV xs (nxV xs (nxV xs a n) n) n, 0, gvN xs a n, 0, 0⟩⟩) := rfl
  have K1 := Lib.hid (fun W g1 g2 (h : UB W g1 g2 A n c a) (h2 : Rd W A n xs) => CR.out W g1 g2 a h h2)
  have K2 := Lib.hid (fun W g1 g2 (h : UB W g1 g2 A n c (nxV xs a n)) (h2 : Rd W A n xs) => CR.out W g1 g2 _ h h2)
  have K3 := Lib.hid (fun W g1 g2 (h : UB W g1 g2 A n c (nxV xs (nxV xs a n) n)) (h2 : Rd W A n xs) => CR.out W g1 g2 _ h h2)
  generalize nxV xs (nxV xs (nxV xs a n) n) n = p3 at HRH K3
  generalize gvN xs (nxV xs (nxV xs a n) n) n = mm at HRH K3 b3
  generalize nxV xs (nxV xs a n) n = p2 at K2 K3
  generalize gvN xs (nxV xs a n) n = hh at HRH K2 b2
  generalize nxV xs a n = p1 at K1 K2
  generalize gvN xs a n = ll at HRH K1 b1
  obtain ⟨K, rfl⟩ : ∃ K : Nat, mm = (K : Int) := ⟨mm.toNat, by omega⟩
  have Z0 := Lib.hid (SBlk.new w 0 0 none 0 0)
  have H0 := Lib.hid (below_a1 w (.cells #[.int .i64 0, .int .i64 0, .slice none 0 0] 35))
  clear hr
  go_enter Try.func38, Try.ntmps38
  go_wp2_with fail
  refine (CU.out _).mono ?_
  rintro e w1 ⟨rfl, hu, hb⟩
  have HU1 : Hid (UB w1 (w.heap.size + 1) (w.heap.size + 1 + 1) A n c a) := Lib.hid (by simpa using hu)
  have Z1 := Lib.hid (Z0.out.below hb)
  have H1 := Lib.hid (g_chain H0.out hb)
  rw [show (w.alloc (.cells #[.int .i64 0, .int .i64 0, .slice none 0 0] 35)).heap.size = w.heap.size + 1 by simp]
  clear hu hb
  go_wp2_with fail
  refine (K1.out _ _ _ HU1.out (HR.out.below H1.out)).mono ?_
  rintro e w2 ⟨rfl, hw⟩
  have HU2 : Hid (UB w2 (w.heap.size + 1) (w.heap.size + 1 + 1) A n c p1) := Lib.hid (by rw [hw]; exact HU1.out.put (by omega) p1)
  have Z2 : Hid (SBlk w2 w.heap.size 0 0 none 0 0) := Lib.hid (by rw [hw]; exact Blk.other Z1.out (p := ⟨w.heap.size + 1 + 1, 0, none⟩) (Nat.ne_of_lt (by show w.heap.size < w.heap.size + 1 + 1; omega)) _)
  have H2 : Hid (Below w.heap.size w w2) := Lib.hid (by rw [hw]; exact H1.out.setCell (p := ⟨w.heap.size + 1 + 1, 0, none⟩) (by show w.heap.size ≤ w.heap.size + 1 + 1; omega) _)
  clear hw HU1 Z1 H1
  go_wp2_with fail
  refine (K2.out _ _ _ HU2.out (HR.out.below H2.out)).mono ?_
  rintro e w3 ⟨rfl, hw⟩
  have HU3 : Hid (UB w3 (w.heap.size + 1) (w.heap.size + 1 + 1) A n c p2) := Lib.hid (by rw [hw]; exact HU2.out.put (by omega) p2)
  have Z3 : Hid (SBlk w3 w.heap.size 0 0 none 0 0) := Lib.hid (by rw [hw]; exact Blk.other Z2.out (p := ⟨w.heap.size + 1 + 1, 0, none⟩) (Nat.ne_of_lt (by show w.heap.size < w.heap.size + 1 + 1; omega)) _)
  have H3 : Hid (Below w.heap.size w w3) := Lib.hid (by rw [hw]; exact H2.out.setCell (p := ⟨w.heap.size + 1 + 1, 0, none⟩) (by show w.heap.size ≤ w.heap.size + 1 + 1; omega) _)
  have hl3 : w.heap.size + 1 + 1 < w3.heap.size := HU3.out.a.lt
  have BA3 := Lib.hid (below_a1 w3 (.cells #[.int .i64 ll, .int .i64 hh, .slice none 0 0] 35))
  have S4 := Lib.hid (SBlk.new w3 ll hh none 0 0)
  have HU4 := Lib.hid (HU3.out.below BA3.out)
  have Z4 := Lib.hid (Z3.out.below BA3.out)
  have H4 := Lib.hid (g_chain H3.out BA3.out)
  clear hw HU2 Z2 H2
  go_wp2_with fail
  refine (K3.out _ _ _ HU4.out (HR.out.below H4.out)).mono ?_
  rintro e w5 ⟨rfl, hw⟩
  have HU5 : Hid (UB w5 (w.heap.size + 1) (w.heap.size + 1 + 1) A n c p3) := Lib.hid (by rw [hw]; exact HU4.out.put (by omega) p3)
  have Z5 : Hid (SBlk w5 w.heap.size 0 0 none 0 0) := Lib.hid (by rw [hw]; exact Blk.other Z4.out (p := ⟨w.heap.size + 1 + 1, 0, none⟩) (Nat.ne_of_lt (by show w.heap.size < w.heap.size + 1 + 1; omega)) _)
  have S5 : Hid (SBlk w5 w3.heap.size ll hh none 0 0) := Lib.hid (by rw [hw]; exact Blk.other S4.out (p := ⟨w.heap.size + 1 + 1, 0, none⟩) (Nat.ne_of_gt (by show w.heap.size + 1 + 1 < w3.heap.size; omega)) _)
  have H5 : Hid (Below w.heap.size w w5) := Lib.hid (by rw [hw]; exact H4.out.setCell (p := ⟨w.heap.size + 1 + 1, 0, none⟩) (by show w.heap.size ≤ w.heap.size + 1 + 1; omega) _)
  have hl5 : w3.heap.size < w5.heap.size := Blk.lt S5.out
  clear hw HU4 Z4 H4 S4 BA3 HU3 Z3 H3
  by_cases hbig : K ≤ 400
  · have BA6 := Lib.hid (below_a1 w5 (.cells #[.int .i64 0, .int .i64 ll, .int .i64 0, .int .i64 0, .int .i64 0] 77))
    have HKO : Hid (RBk.Ok (⟨w.heap.size + 1, w.heap.size + 1 + 1, w5.heap.size, w3.heap.size, w.heap.size, w5.heap.size + 1⟩ : RBk) w) := Lib.hid ⟨Nat.le_refl _, by show w.heap.size < w.heap.size + 1; omega, by show w.heap.size + 1 < w.heap.size + 1 + 1; omega, hl3, hl5, by show w5.heap.size < w5.heap.size + 1; omega⟩
    obtain ⟨s0, hs0⟩ : ∃ s0 : RS, s0 = ⟨p3, 0, ll, 0, 0⟩ := ⟨_, rfl⟩
    have RB0 : Hid (RB (⟨w.heap.size + 1, w.heap.size + 1 + 1, w5.heap.size, w3.heap.size, w.heap.size, w5.heap.size + 1⟩ : RBk) w (w5.alloc (.cells #[.int .i64 0, .int .i64 ll, .int .i64 0, .int .i64 0, .int .i64 0] 77)) A n c (rdIt xs n 0 s0).a (rdIt xs n 0 s0).e ll hh none 0 (esR xs n 0 s0)) := Lib.hid (by
      rw [hs0]
      exact ⟨HU5.out.below BA6.out, KBlk.new w5 ⟨0, ll, 0, 0, 0⟩, S5.out.below BA6.out, Z5.out.below BA6.out, World.ownsRow_nil _ _ _ _, g_chain H5.out BA6.out, by simp⟩)
    have HS0 := Lib.hid hs0
    have RVar : Hid (∀ W p d A1 c1 ks, RB (⟨w.heap.size + 1, w.heap.size + 1 + 1, w5.heap.size, w3.heap.size, w.heap.size, w5.heap.size + 1⟩ : RBk) w W A n c p d ll hh A1 c1 ks → Calls Try.prog 103 #[.func (.func 78) #[] #[], .pointer (some ⟨w.heap.size + 1, 0, none⟩), .pointer (some ⟨w.heap.size + 1 + 1, 0, none⟩)] W fun e w' => e = .returned (.int .i64 (gvN xs p n)) ∧ RB (⟨w.heap.size + 1, w.heap.size + 1 + 1, w5.heap.size, w3.heap.size, w.heap.size, w5.heap.size + 1⟩ : RBk) w w' A n c (nxV xs p n) d ll hh A1 c1 ks) := Lib.hid (fun W p d A1 c1 ks h => h.readVar HKO.out HR.out hn)
    have RZig : Hid (∀ W p d A1 c1 ks, RB (⟨w.heap.size + 1, w.heap.size + 1 + 1, w5.heap.size, w3.heap.size, w.heap.size, w5.heap.size + 1⟩ : RBk) w W A n c p d ll hh A1 c1 ks → Calls Try.prog 103 #[.func (.func 79) #[] #[], .pointer (some ⟨w.heap.size + 1, 0, none⟩), .pointer (some ⟨w.heap.size + 1 + 1, 0, none⟩)] W fun e w' => e = .returned (.int .i64 (vZ xs p n)) ∧ RB (⟨w.heap.size + 1, w.heap.size + 1 + 1, w5.heap.size, w3.heap.size, w.heap.size, w5.heap.size + 1⟩ : RBk) w w' A n c (nxV xs p n) d ll hh A1 c1 ks) := Lib.hid (fun W p d A1 c1 ks h => h.readZig HKO.out HR.out hn)
    have RE : Hid (∀ W p d A1 c1 ks, RB (⟨w.heap.size + 1, w.heap.size + 1 + 1, w5.heap.size, w3.heap.size, w.heap.size, w5.heap.size + 1⟩ : RBk) w W A n c p d ll hh A1 c1 ks → Calls Try.prog 104 #[.pointer (some ⟨w.heap.size + 1 + 1, 0, none⟩)] W fun e w' => e = .returned (.int .i64 p) ∧ W = w') := Lib.hid (fun W p d A1 c1 ks h => end_any h.u)
    obtain ⟨sl, q0, q1, q2⟩ := S5.out.hbox
    clear hs0
    go_wp2
    clear sl q0 q1 q2
    go_loopw [32] (fun i wr => ∃ (j : Nat) (A1 : Option Addr) (c1 : Nat), j ≤ K ∧ i = .int .i64 (j : Int) ∧ Hid (RB (⟨w.heap.size + 1, w.heap.size + 1 + 1, w5.heap.size, w3.heap.size, w.heap.size, w5.heap.size + 1⟩ : RBk) w wr A n c (rdIt xs n j s0).a (rdIt xs n j s0).e ll hh A1 c1 (esR xs n j s0))) (fun i _ => K - (intOf i).toNat)
    case atStart => exact ⟨0, none, 0, Nat.zero_le _, rfl, RB0⟩
    case round =>
      clear RB0 BA6 HU5 S5 Z5 H5
      obtain ⟨j, A1, c1, hj, rfl, hrb⟩ := hrel
      by_cases hlt : j < K
      · have hel : (esR xs n j s0).length ≤ 400 := by rw [esR_len]; omega
        have HNE := Lib.hid (esR_snoc xs n j s0)
        have HNI := Lib.hid (rdIt_succ xs n j s0)
        generalize esR xs n j s0 = ks at hel HNE hrb
        generalize hs : rdIt xs n j s0 = s at HNE HNI hrb
        have HNS : Hid (rdStep xs n s = ⟨nxV xs (nxV xs (nxV xs (nxV xs s.a n) n) n) n, IntKind.i64.wrap (s.f + gvN xs s.a n), IntKind.i64.wrap (s.t + vZ xs (nxV xs s.a n) n), gvN xs (nxV xs (nxV xs s.a n) n) n, IntKind.i64.wrap (s.i + vZ xs (nxV xs (nxV xs (nxV xs s.a n) n) n) n)⟩) := Lib.hid rfl
        have C1 := Lib.hid (fun W d (h : RB (⟨w.heap.size + 1, w.heap.size + 1 + 1, w5.heap.size, w3.heap.size, w.heap.size, w5.heap.size + 1⟩ : RBk) w W A n c s.a d ll hh A1 c1 ks) => RVar.out W s.a d A1 c1 ks h)
        generalize nxV xs s.a n = a1 at C1 HNS
        have C2 := Lib.hid (fun W d (h : RB (⟨w.heap.size + 1, w.heap.size + 1 + 1, w5.heap.size, w3.heap.size, w.heap.size, w5.heap.size + 1⟩ : RBk) w W A n c a1 d ll hh A1 c1 ks) => RZig.out W a1 d A1 c1 ks h)
        generalize nxV xs a1 n = a2 at C2 HNS
        have C3 := Lib.hid (fun W d (h : RB (⟨w.heap.size + 1, w.heap.size + 1 + 1, w5.heap.size, w3.heap.size, w.heap.size, w5.heap.size + 1⟩ : RBk) w W A n c a2 d ll hh A1 c1 ks) => RVar.out W a2 d A1 c1 ks h)
        generalize nxV xs a2 n = a3 at C3 HNS
        have C4 := Lib.hid (fun W d (h : RB (⟨w.heap.size + 1, w.heap.size + 1 + 1, w5.heap.size, w3.heap.size, w.heap.size, w5.heap.size + 1⟩ : RBk) w W A n c a3 d ll hh A1 c1 ks) => RZig.out W a3 d A1 c1 ks h)
        generalize nxV xs a3 n = a4 at C4 HNS
        generalize gvN xs s.a n = v1 at C1 HNS
        generalize vZ xs a1 n = v2 at C2 HNS
        generalize gvN xs a2 n = v3 at C3 HNS
        generalize vZ xs a3 n = v4 at C4 HNS
        obtain ⟨sa, sf, st, sw, si⟩ := s
        simp only [RS.e] at hrb
        obtain ⟨q0, q1, q2, q3, q4⟩ := (show KBlk wr w5.heap.size ⟨sf, st, sw, si, 0⟩ from hrb.out.l).cells
        go_wp2
        go_region_with (first
          | (go_at_call 103; ((with_reducible refine (C1.out _ _ (by first | exact hrb.out | exact hrb.out.drew)).mono ?_)); rintro e wa ⟨rfl, hwa⟩; have RA := Lib.hid hwa; obtain ⟨r0, r1, r2, r3, r4⟩ := (show KBlk wa w5.heap.size ⟨sf, st, sw, si, 0⟩ from hwa.l).cells; have rf0 := Blk.frozen (show KBlk wa w5.heap.size ⟨sf, st, sw, si, 0⟩ from hwa.l) 0))
        all_goals
          clear q0 q1 q2 q3 q4 r0 r1 r2 r3 r4 rf0 hwa
          have RA2 : Hid (RB (⟨w.heap.size + 1, w.heap.size + 1 + 1, w5.heap.size, w3.heap.size, w.heap.size, w5.heap.size + 1⟩ : RBk) w (wa.setCell ⟨w5.heap.size, 0, none⟩ (.int .i64 (IntKind.i64.wrap (sf + v1)))) A n c a1 ⟨IntKind.i64.wrap (sf + v1), st, sw, si, 0⟩ ll hh A1 c1 ks) := Lib.hid (RA.out.last HKO.out rfl)
          generalize wa.setCell ⟨w5.heap.size, 0, none⟩ (.int .i64 (IntKind.i64.wrap (sf + v1))) = wb at RA2 ⊢
          obtain ⟨q0, q1, q2, q3, q4⟩ := (show KBlk wb w5.heap.size ⟨IntKind.i64.wrap (sf + v1), st, sw, si, 0⟩ from RA2.out.l).cells
          go_wp2
          go_region_with (first
            | (go_at_call 103; ((with_reducible refine (C2.out _ _ (by first | exact RA2.out | exact RA2.out.drew)).mono ?_)); rintro e wc ⟨rfl, hwc⟩; have RC := Lib.hid hwc; obtain ⟨r0, r1, r2, r3, r4⟩ := (show KBlk wc w5.heap.size ⟨IntKind.i64.wrap (sf + v1), st, sw, si, 0⟩ from hwc.l).cells; have rf1 := Blk.frozen (show KBlk wc w5.heap.size ⟨IntKind.i64.wrap (sf + v1), st, sw, si, 0⟩ from hwc.l) 1))
        all_goals
          clear q0 q1 q2 q3 q4 r0 r1 r2 r3 r4 rf1 hwc
          have RC2 : Hid (RB (⟨w.heap.size + 1, w.heap.size + 1 + 1, w5.heap.size, w3.heap.size, w.heap.size, w5.heap.size + 1⟩ : RBk) w (wc.setCell ⟨w5.heap.size, 1, none⟩ (.int .i64 (IntKind.i64.wrap (st + v2)))) A n c a2 ⟨IntKind.i64.wrap (sf + v1), IntKind.i64.wrap (st + v2), sw, si, 0⟩ ll hh A1 c1 ks) := Lib.hid (RC.out.last HKO.out rfl)
          generalize wc.setCell ⟨w5.heap.size, 1, none⟩ (.int .i64 (IntKind.i64.wrap (st + v2))) = wd at RC2 ⊢
          go_wp2_with fail
          refine (C3.out _ _ RC2.out).mono ?_
          rintro e we ⟨rfl, hwe⟩
          have RE2 : Hid (RB (⟨w.heap.size + 1, w.heap.size + 1 + 1, w5.heap.size, w3.heap.size, w.heap.size, w5.heap.size + 1⟩ : RBk) w (we.setCell ⟨w5.heap.size, 2, none⟩ (.int .i64 v3)) A n c a3 ⟨IntKind.i64.wrap (sf + v1), IntKind.i64.wrap (st + v2), v3, si, 0⟩ ll hh A1 c1 ks) := Lib.hid (hwe.last HKO.out rfl)
          obtain ⟨q0, q1, q2, q3, q4⟩ := (show KBlk we w5.heap.size ⟨IntKind.i64.wrap (sf + v1), IntKind.i64.wrap (st + v2), sw, si, 0⟩ from hwe.l).cells
          have rf2 := Blk.frozen (show KBlk we w5.heap.size ⟨IntKind.i64.wrap (sf + v1), IntKind.i64.wrap (st + v2), sw, si, 0⟩ from hwe.l) 2
          clear hwe
          go_wp2
          clear q0 q1 q2 q3 q4 rf2
          generalize we.setCell ⟨w5.heap.size, 2, none⟩ (.int .i64 v3) = wf at RE2 ⊢
          obtain ⟨q0, q1, q2, q3, q4⟩ := (show KBlk wf w5.heap.size ⟨IntKind.i64.wrap (sf + v1), IntKind.i64.wrap (st + v2), v3, si, 0⟩ from RE2.out.l).cells
          go_region_with (first
            | (go_at_call 103; ((with_reducible refine (C4.out _ _ (by first | exact RE2.out | exact RE2.out.drew)).mono ?_)); rintro e wg ⟨rfl, hwg⟩; have RG := Lib.hid hwg; obtain ⟨r0, r1, r2, r3, r4⟩ := (show KBlk wg w5.heap.size ⟨IntKind.i64.wrap (sf + v1), IntKind.i64.wrap (st + v2), v3, si, 0⟩ from hwg.l).cells; have rf3 := Blk.frozen (show KBlk wg w5.heap.size ⟨IntKind.i64.wrap (sf + v1), IntKind.i64.wrap (st + v2), v3, si, 0⟩ from hwg.l) 3))
        all_goals
          clear q0 q1 q2 q3 q4 r0 r1 r2 r3 r4 rf3 hwg
          have RG2 : Hid (RB (⟨w.heap.size + 1, w.heap.size + 1 + 1, w5.heap.size, w3.heap.size, w.heap.size, w5.heap.size + 1⟩ : RBk) w (wg.setCell ⟨w5.heap.size, 3, none⟩ (.int .i64 (IntKind.i64.wrap (si + v4)))) A n c a4 ⟨IntKind.i64.wrap (sf + v1), IntKind.i64.wrap (st + v2), v3, IntKind.i64.wrap (si + v4), 0⟩ ll hh A1 c1 ks) := Lib.hid (RG.out.last HKO.out rfl)
          generalize wg.setCell ⟨w5.heap.size, 3, none⟩ (.int .i64 (IntKind.i64.wrap (si + v4))) = wh at RG2 ⊢
          generalize IntKind.i64.wrap (sf + v1) = nf at HNS RG2
          generalize IntKind.i64.wrap (st + v2) = nt at HNS RG2
          generalize IntKind.i64.wrap (si + v4) = ni at HNS RG2
          have RH := Lib.hid (RG2.out.below (below_a1 wh (.cells #[.int .i64 nf, .int .i64 nt, .int .i64 v3, .int .i64 ni, .int .i64 0] 77)))
          have hgl : w5.heap.size + 1 ≤ wh.heap.size := RG2.out.g
          have HON := Lib.hid (five_cells ⟨nf, nt, v3, ni, 0⟩)
          obtain ⟨q0, q1, q2, q3, q4⟩ := (show KBlk wh w5.heap.size ⟨nf, nt, v3, ni, 0⟩ from RG2.out.l).cells
          obtain ⟨p0, p1, p2⟩ := (show SBlk wh w3.heap.size ll hh A1 ks.length c1 from RG2.out.s).cells
          have HOW : Hid ((wh.alloc (.cells #[.int .i64 nf, .int .i64 nt, .int .i64 v3, .int .i64 ni, .int .i64 0] 77)).ownsRow (w5.heap.size + 1) 77 5 (.slice A1 ks.length c1) ks.length (ks.flatMap KE.cells)) := Lib.hid RH.out.o
          have HFV := Lib.hid (five_reads wh ⟨nf, nt, v3, ni, 0⟩ 77 wh.heap.size rfl)
          go_wp2_with (at_builtin; refine wpList_append_any _ rfl (.tmp 56) (.tmp 58) _ rfl (w5.heap.size + 1) 77 i0 _ 5 40 Try.underlying33 hi0 hz0 hz1 hz2 rfl (by omega) (.slice A1 ks.length c1) ks.length (ks.flatMap KE.cells) rfl HOW.out (wh.heap.size + 1) (some ⟨wh.heap.size, 0, none⟩) 1 1 [.int .i64 nf, .int .i64 nt, .int .i64 v3, .int .i64 ni, .int .i64 0] rfl HFV.out HON.out (by simp only [maxLen]; omega) (by omega) (by simp; omega) ?_)
          intro v9 w9 hown9 hg9 _
          obtain ⟨A9, c9, rfl⟩ := pk_form hown9
          have RI := Lib.hid (RH.out.more HKO.out hg9 hown9)
          have S9 : Hid (SBlk w9 w3.heap.size ll hh A1 ks.length c1) := Lib.hid (Blk.grown RH.out.s hg9 (RH.out.ne (by show w3.heap.size < w5.heap.size + 1; omega)))
          have sf2 := Blk.frozen S9.out 2
          obtain ⟨p0', p1', p2'⟩ := S9.out.cells
          have HRN : Hid (RB (⟨w.heap.size + 1, w.heap.size + 1 + 1, w5.heap.size, w3.heap.size, w.heap.size, w5.heap.size + 1⟩ : RBk) w (w9.setCell ⟨w3.heap.size, 2, none⟩ (.slice A9 (ks.length + 1) c9)) A n c (rdIt xs n (j + 1) s0).a (rdIt xs n (j + 1) s0).e ll hh A9 c9 (esR xs n (j + 1) s0)) := Lib.hid (by rw [HNI.out, HNE.out, HNS.out]; exact RI.out)
          clear q0 q1 q2 q3 q4 p0 p1 p2 hown9 hg9
          go_wp2
          go_roundw
          case rel => exact ⟨j + 1, A9, c9, by omega, by go_num, HRN⟩
          case measure => simp [intOf]; omega
      · obtain rfl : j = K := by omega
        have HLo : Hid ((rdHead xs a n).lo = ll ∧ (rdHead xs a n).hi = hh ∧ (rdHead xs a n).m = (j : Int)) := Lib.hid (by rw [HRH.out]; exact ⟨rfl, rfl, rfl⟩)
        have HZz : Hid ((rdHead xs a n).z xs n = (rdIt xs n j s0).a) := Lib.hid (by unfold RH.z; rw [HRH.out, ← HS0.out]; simp)
        have HEs : Hid ((rdHead xs a n).es xs n = esR xs n j s0) := Lib.hid (by unfold RH.es; rw [HRH.out, ← HS0.out]; simp)
        have hel : (esR xs n j s0).length ≤ 400 := by rw [esR_len]; omega
        generalize esR xs n j s0 = ks at hel HEs hrb
        generalize (rdIt xs n j s0).a = pos at HZz hrb
        generalize (rdIt xs n j s0).e = de at hrb
        have CE := Lib.hid (fun W (h : RB (⟨w.heap.size + 1, w.heap.size + 1 + 1, w5.heap.size, w3.heap.size, w.heap.size, w5.heap.size + 1⟩ : RBk) w W A n c pos de ll hh A1 c1 ks) => RE.out W pos de A1 c1 ks h)
        rcases Int.lt_or_le pos 0 with hneg | hpos
        · have hno : shrG xs a n = false := shrG_neg (by rw [HZz.out]; exact hneg)
          have HE := Lib.hid (shr_no hno)
          have HE2 := Lib.hid hno
          have HZB : Hid (SBlk wr w.heap.size 0 0 none 0 0) := Lib.hid hrb.out.z
          have HBB := Lib.hid hrb.out.b
          obtain ⟨z0, z1, z2⟩ := HZB.out.cells
          have f0 := Blk.frozen HZB.out 0
          have f1 := Blk.frozen HZB.out 1
          have f2 := Blk.frozen HZB.out 2
          clear hno
          go_wp2_with (go_at_call 104; refine (CE.out _ hrb.out).mono ?_; rintro e w' ⟨rfl, rfl⟩)
          refine bodyPost_ret (v := .tuple #[.agg #[.int .i64 0, .int .i64 0, .slice none 0 0], .int .i64 0, .bool false]) (by simp [results, Try.results38, go_sem, z0, z1, z2]) rfl ?_
          rw [HE2.out, HE.out.1, HE.out.2.1, HE.out.2.2.1, HE.out.2.2.2]
          exact MadeShP.no w _ (by repeat (first | exact HBB.out | refine Below.setCell ?_ (by simp) _))
        · have hgo := Lib.hid (shrG_of (xs := xs) (a := a) (n := n) (by rw [HLo.out.2.2]; omega) (by rw [HZz.out]; exact hpos))
          have CO := Lib.hid (fun W (h : RB (⟨w.heap.size + 1, w.heap.size + 1 + 1, w5.heap.size, w3.heap.size, w.heap.size, w5.heap.size + 1⟩ : RBk) w W A n c pos de ll hh A1 c1 ks) => implShardOk ll hh A1 ks.length c1 ks W (SlK.of_own h.o rfl) (by omega))
          have SB : Hid (SBlk wr w3.heap.size ll hh A1 ks.length c1) := Lib.hid hrb.out.s
          obtain ⟨p0, p1, p2⟩ := SB.out.cells
          rw [HLo.out.1, HLo.out.2.1, HEs.out] at hgo
          cases hv : shardB ll hh ks with
          | false =>
            rw [hv] at hgo CO
            have HE := Lib.hid (shr_no hgo.out)
            go_wp2_with (first
              | (go_at_call 104; refine (CE.out _ hrb.out).mono ?_; rintro e w' ⟨rfl, rfl⟩)
              | (go_at_call 18; refine (CO.out _ hrb.out).mono ?_; rintro e wx ⟨rfl, hbx⟩; have HRX := Lib.hid (hrb.out.below hbx); have HZB : Hid (SBlk wx w.heap.size 0 0 none 0 0) := Lib.hid HRX.out.z; obtain ⟨z0, z1, z2⟩ := HZB.out.cells; have f0 := Blk.frozen HZB.out 0; have f1 := Blk.frozen HZB.out 1; have f2 := Blk.frozen HZB.out 2))
            refine bodyPost_ret (v := .tuple #[.agg #[.int .i64 0, .int .i64 0, .slice none 0 0], .int .i64 0, .bool false]) (by simp [results, Try.results38, go_sem, z0, z1, z2]) rfl ?_
            rw [hgo.out, HE.out.1, HE.out.2.1, HE.out.2.2.1, HE.out.2.2.2]
            exact MadeShP.no w _ (by repeat (first | exact HRX.out.b | refine Below.setCell ?_ (by simp) _))
          | true =>
            rw [hv] at hgo CO
            have HE := Lib.hid (shr_yes hgo.out)
            go_wp2_with (first
              | (go_at_call 104; refine (CE.out _ hrb.out).mono ?_; rintro e w' ⟨rfl, rfl⟩)
              | (go_at_call 18; refine (CO.out _ hrb.out).mono ?_; rintro e wx ⟨rfl, hbx⟩; have HRX := Lib.hid (hrb.out.below hbx); have HZB : Hid (SBlk wx w.heap.size 0 0 none 0 0) := Lib.hid HRX.out.z; have SX : Hid (SBlk wx w3.heap.size ll hh A1 ks.length c1) := Lib.hid HRX.out.s))
            clear p0 p1 p2
            obtain ⟨p0, p1, p2⟩ := SX.out.cells
            obtain ⟨z0, z1, z2⟩ := HZB.out.cells
            have f0 := Blk.frozen HZB.out 0
            have f1 := Blk.frozen HZB.out 1
            have f2 := Blk.frozen HZB.out 2
            go_region_with (go_at_call 104; ((with_reducible refine (CE.out _ (by first | exact HRX.out | exact HRX.out.drew)).mono ?_)); rintro e w' ⟨rfl, rfl⟩)
            all_goals
              have HNB := Lib.hid (HRX.out.ne (q := w.heap.size) (by show w.heap.size < w5.heap.size + 1; omega))
              go_wp2
              refine bodyPost_ret (v := .tuple #[.agg #[.int .i64 ll, .int .i64 hh, .slice A1 ks.length c1], .int .i64 pos, .bool true]) (by simp [results, Try.results38, go_sem, z0, z1, z2]) rfl ?_
              rw [hgo.out, HE.out.1, HE.out.2.1, HE.out.2.2.1, HE.out.2.2.2, HLo.out.1, HLo.out.2.1, HEs.out, HZz.out]
              exact ⟨A1, c1, rfl, own_apart (own_apart (own_apart (own_monoG (lo' := w.heap.size) HRX.out.o (by show w.heap.size ≤ w5.heap.size + 1; omega)) HNB.out) HNB.out) HNB.out, by repeat (first | exact HRX.out.b | refine Below.drew ?_ | refine Below.setCell ?_ (by simp) _)⟩
  · have hb2 : (400 : Int) < (K : Int) := by omega
    have hno : shrG xs a n = false := shrG_big (by rw [HRH.out]; exact hb2)
    have HE := Lib.hid (shr_no hno)
    have HE2 := Lib.hid hno
    obtain ⟨z0, z1, z2⟩ := Z5.out.cells
    have f0 := Blk.frozen Z5.out 0
    have f1 := Blk.frozen Z5.out 1
    have f2 := Blk.frozen Z5.out 2
    clear hno hbig
    go_wp2
    refine bodyPost_ret (v := .tuple #[.agg #[.int .i64 0, .int .i64 0, .slice none 0 0], .int .i64 0, .bool false]) (by simp [results, Try.results38, go_sem, z0, z1, z2]) rfl ?_
    rw [HE2.out, HE.out.1, HE.out.2.1, HE.out.2.2.1, HE.out.2.2.2]
    exact MadeShP.no w _ (by repeat (first | exact H5.out | refine Below.setCell ?_ (by simp) _))
end Go.Proofs.Ytmbabbapcjphgaa
