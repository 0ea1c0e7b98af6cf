/- The contracts of the program's sources of records: the next record of a list, of a pair; a side's drawing. Condition: the lists read in a world that nothing has overwritten. -/
import Derived.Test.YtpgnappddddlpaaCOK
import Derived.Test.YtpgnappddddlpaaCOQ
import Derived.Test.YtpgnappddddlpaaCOP
import Derived.Handy
import Derived.StillTailTactics
import Derived.Deep.RegionLaw
import Derived.Deep.Cut
namespace Go.Proofs.Ytpgnappddddlpaa
open Go.RowKit

theorem rec_tail {P : Option Addr} {n c m : Nat} {es : List GE} {w : World} (hr : SlG w P n es) (hm : m + 1 = n) (hc : n ≤ c) :
    ∃ P', (∀ W, (Instr.slice 148 (.slice P n c) (some (.int .i64 1)) none none).run Try.prog W = .ok (.slice P' m (c - 1)) W) ∧ SlG w P' m (es.drop 1) := by
  obtain ⟨P', h1, h2⟩ := rec_from (k := 1) hr (by omega) hc
  rw [show n - 1 = m by omega] at h1 h2
  exact ⟨P', h1, h2⟩

set_option maxRecDepth 10000 in
set_option maxHeartbeats 1000000 in
theorem listNext (w0 w : World) (lo hi L : Nat) (A : Option Addr) (n c : Nat) (es : List GE) (h1 : lo ≤ L) (h2 : L < hi) (hb : Blk w L #[.slice A n c] 212) (hs : SlG w0 A n es) (hc : n ≤ c) (hB : Below w0.heap.size w0 w) :
    Calls Try.prog 210 #[.pointer (some ⟨L, 0, none⟩)] w (NextIs w0 (.leaf es) lo hi (.iface 210 (.pointer (some ⟨L, 0, none⟩))) w) := by
  have hLs := hb.lt
  have x0 := hb.cell (i := 0) rfl
  have xf := hb.frozen 0
  have HBK := Lib.hid hb
  have HBL := Lib.hid hB
  have HS := Lib.hid hs
  rcases Nat.eq_zero_or_pos n with rfl | hpos
  · obtain rfl : es = [] := List.eq_nil_of_length_eq_zero hs.len
    clear hs hB hb
    go_enter Try.func210, Try.ntmps210
    go_wp2
    refine bodyPost_ret (v := .tuple #[.agg #[.int .i64 0, .int .i64 0, .int .i64 0], .bool false]) (by simp [results, Try.results210, go_sem]) rfl ?_
    exact ⟨zeroG, false, rfl, rfl, ⟨L, A, 0, c, h1, h2, rfl, HBK.out.alloc _, HS.out, hc⟩, Within.alloc (OnlyB.refl _ _) _⟩
  · obtain ⟨m, hm⟩ : ∃ m, m + 1 = n := ⟨n - 1, by omega⟩
    obtain ⟨P', hrun, hsl⟩ := rec_tail hs hm hc
    obtain ⟨b, off, x, rfl, hbw, he, c0, c1, c2⟩ := hs.at_ (j := 0) hpos
    have c0 := (hB.cell (p := ⟨b, off + 0 * 3, none⟩) hbw).trans c0
    have c1 := (hB.cell (p := ⟨b, off + 0 * 3 + 1, none⟩) hbw).trans c1
    have c2 := (hB.cell (p := ⟨b, off + 0 * 3 + 2, none⟩) hbw).trans c2
    simp only [Nat.zero_mul, Nat.add_zero] at c0 c1 c2
    have hbs : b < w.heap.size := Nat.lt_of_lt_of_le hbw hB.size
    have hn0 : ((n : Int) == 0) = false := by simp; omega
    have HSL := Lib.hid hsl
    clear hs hB hb hsl
    go_enter Try.func210, Try.ntmps210
    go_wp2
    refine bodyPost_ret (v := .tuple #[.agg #[.int .i64 x.f, .int .i64 x.t, .int .i64 x.w], .bool true]) (by simp [results, Try.results210, go_sem]) rfl ?_
    obtain ⟨r, rfl⟩ : ∃ r, es = x :: r := by
      cases es with
      | nil => exact absurd he.out (by simp)
      | cons y r =>
        have := he.out
        simp at this
        subst this
        exact ⟨r, rfl⟩
    have hset := HBK.out.set 0 (.slice P' m (c - 1))
    exact ⟨x, true, rfl, ⟨rfl, rfl⟩, ⟨L, P', m, c - 1, h1, h2, rfl, (by simpa using hset : Blk _ L #[.slice P' m (c - 1)] _).alloc _ |>.alloc _, HSL.out, by omega⟩, Within.alloc (Within.alloc (Within.set (OnlyB.refl _ _) (p := ⟨L, 0, none⟩) ⟨h1, h2⟩ _) _) _⟩

/-- A source's next, whatever its dynamic type. -/
def NextAt (w0 : World) (t : Tr) (lo hi : Nat) (v : Value) (w : World) : Prop :=
  ∃ (ty f : Nat) (a : Option Addr), v = .iface ty (.pointer a) ∧ ((ty = 210 ∧ f = 210) ∨ (ty = 213 ∧ f = 211)) ∧ Calls Try.prog f #[.pointer a] w (NextIs w0 t lo hi v w)
/-- A side's four cells behind its source's. -/
def sideC (cs : Array Value) (o : Nat) (f : GE) (b : Bool) : Array Value := (((cs.setIfInBounds (o + 1) (.int .i64 f.f)).setIfInBounds (o + 2) (.int .i64 f.t)).setIfInBounds (o + 3) (.int .i64 f.w)).setIfInBounds (o + 4) (.bool b)
def Drew (w0 : World) (t : Tr) (P o lo hi : Nat) (v : Value) (cs : Array Value) (w : World) (e : Ending) (w' : World) : Prop :=
  e = .returned (.tuple #[]) ∧ ∃ (f : GE) (b : Bool), HdIs t.next.1 f b ∧ Src w0 w' t.next.2 lo hi v ∧ Blk w' P (sideC cs o f b) 220 ∧ OnlyB (fun k => (lo ≤ k ∧ k < hi) ∨ k = P) w w'

set_option maxRecDepth 10000 in
set_option maxHeartbeats 1000000 in
theorem drawSide (w0 w : World) (P o lo hi : Nat) (t : Tr) (v : Value) (cs : Array Value) (hP : hi ≤ P) (hb : Blk w P cs 220) (ho : o + 4 < cs.size) (hv : cs[o]? = some v) (_hlo : lo ≤ P) (hN : NextAt w0 t lo hi v w) :
    Calls Try.prog 176 #[.pointer (some ⟨P, o, none⟩)] w (Drew w0 t P o lo hi v cs w) := by
  have x0 := hb.cell (i := o) hv
  have HB := Lib.hid hb
  obtain ⟨ty, f, a, rfl, hty, hC⟩ := hN
  have HC := Lib.hid hC
  clear hC hb
  rcases hty with ⟨rfl, rfl⟩ | ⟨rfl, rfl⟩
  · go_enter Try.func176, Try.ntmps176
    go_wp2_with fail
    refine HC.out.mono ?_
    rintro e w1 ⟨f, b, rfl, hh, hsrc, hw⟩
    have HB1 := Lib.hid (HB.out.within hw (.inr hP))
    have HH := Lib.hid hh
    have HSRC := Lib.hid hsrc
    have HW := Lib.hid hw
    have f1 := HB1.out.frozen (o + 1)
    have f2 := HB1.out.frozen (o + 1 + 1)
    have f3 := HB1.out.frozen (o + 1 + 2)
    have f4 := HB1.out.frozen (o + 4)
    have c1 := HB1.out.cell (i := o + 1) (Array.getElem?_eq_getElem (by omega))
    have c2 := HB1.out.cell (i := o + 1 + 1) (Array.getElem?_eq_getElem (by omega))
    have c3 := HB1.out.cell (i := o + 1 + 2) (Array.getElem?_eq_getElem (by omega))
    have c4 := HB1.out.cell (i := o + 4) (Array.getElem?_eq_getElem (by omega))
    generalize cs[o + 1] = v1 at c1
    generalize cs[o + 1 + 1] = v2 at c2
    generalize cs[o + 1 + 2] = v3 at c3
    generalize cs[o + 4] = v4 at c4
    clear hh hsrc hw HB x0
    go_wp2
    go_end0
    have WS : Within P (P + 1) w1 ((((w1.setCell ⟨P, o + 1, none⟩ (.int .i64 f.f)).setCell ⟨P, o + 1 + 1, none⟩ (.int .i64 f.t)).setCell ⟨P, o + 1 + 2, none⟩ (.int .i64 f.w)).setCell ⟨P, o + 4, none⟩ (.bool b)) :=
      Within.set (Within.set (Within.set (Within.set (OnlyB.refl _ _) (by simp) _) (by simp) _) (by simp) _) (by simp) _
    exact ⟨rfl, f, b, HH.out, HSRC.out.within WS (.inl hP), (((HB1.out.set (o + 1) _).set (o + 1 + 1) _).set (o + 1 + 2) _).set (o + 4) _, (OnlyB.mono HW.out (fun k hk => .inl hk)).trans (OnlyB.mono WS (fun k hk => .inr (by omega)))⟩
  · go_enter Try.func176, Try.ntmps176
    go_wp2_with fail
    refine HC.out.mono ?_
    rintro e w1 ⟨f, b, rfl, hh, hsrc, hw⟩
    have HB1 := Lib.hid (HB.out.within hw (.inr hP))
    have HH := Lib.hid hh
    have HSRC := Lib.hid hsrc
    have HW := Lib.hid hw
    have f1 := HB1.out.frozen (o + 1)
    have f2 := HB1.out.frozen (o + 1 + 1)
    have f3 := HB1.out.frozen (o + 1 + 2)
    have f4 := HB1.out.frozen (o + 4)
    have c1 := HB1.out.cell (i := o + 1) (Array.getElem?_eq_getElem (by omega))
    have c2 := HB1.out.cell (i := o + 1 + 1) (Array.getElem?_eq_getElem (by omega))
    have c3 := HB1.out.cell (i := o + 1 + 2) (Array.getElem?_eq_getElem (by omega))
    have c4 := HB1.out.cell (i := o + 4) (Array.getElem?_eq_getElem (by omega))
    generalize cs[o + 1] = v1 at c1
    generalize cs[o + 1 + 1] = v2 at c2
    generalize cs[o + 1 + 2] = v3 at c3
    generalize cs[o + 4] = v4 at c4
    clear hh hsrc hw HB x0
    go_wp2
    go_end0
    have WS : Within P (P + 1) w1 ((((w1.setCell ⟨P, o + 1, none⟩ (.int .i64 f.f)).setCell ⟨P, o + 1 + 1, none⟩ (.int .i64 f.t)).setCell ⟨P, o + 1 + 2, none⟩ (.int .i64 f.w)).setCell ⟨P, o + 4, none⟩ (.bool b)) :=
      Within.set (Within.set (Within.set (Within.set (OnlyB.refl _ _) (by simp) _) (by simp) _) (by simp) _) (by simp) _
    exact ⟨rfl, f, b, HH.out, HSRC.out.within WS (.inl hP), (((HB1.out.set (o + 1) _).set (o + 1 + 1) _).set (o + 1 + 2) _).set (o + 4) _, (OnlyB.mono HW.out (fun k hk => .inl hk)).trans (OnlyB.mono WS (fun k hk => .inr (by omega)))⟩

/-! ### a pair's next -/
def pairC2 (vl : Value) (fl : GE) (bl : Bool) (vr : Value) (fr : GE) (br : Bool) : Array Value := pairC vl fl bl vr fr br
theorem side_left (vl : Value) (fl : GE) (bl : Bool) (vr : Value) (fr : GE) (br : Bool) (f : GE) (b : Bool) : sideC (pairC vl fl bl vr fr br) 0 f b = pairC vl f b vr fr br := rfl
theorem side_right (vl : Value) (fl : GE) (bl : Bool) (vr : Value) (fr : GE) (br : Bool) (f : GE) (b : Bool) : sideC (pairC vl fl bl vr fr br) 5 f b = pairC vl fl bl vr f b := rfl
theorem Blk.pairAt {w : World} {P : Nat} {t : TypeId} {vl vr : Value} {fl fr : GE} {bl br : Bool} (h : Blk w P (pairC vl fl bl vr fr br) t) :
    w.cell? ⟨P, 1, none⟩ = some (.int .i64 fl.f) ∧ w.cell? ⟨P, 1 + 1, none⟩ = some (.int .i64 fl.t) ∧ w.cell? ⟨P, 1 + 2, none⟩ = some (.int .i64 fl.w) ∧ w.cell? ⟨P, 4, none⟩ = some (.bool bl) ∧
    w.cell? ⟨P, 6, none⟩ = some (.int .i64 fr.f) ∧ w.cell? ⟨P, 6 + 1, none⟩ = some (.int .i64 fr.t) ∧ w.cell? ⟨P, 6 + 2, none⟩ = some (.int .i64 fr.w) ∧ w.cell? ⟨P, 9, none⟩ = some (.bool br) :=
  ⟨h.cell rfl, h.cell rfl, h.cell rfl, h.cell rfl, h.cell rfl, h.cell rfl, h.cell rfl, h.cell rfl⟩

theorem HdIs.no {h : Option GE} {f : GE} (e : HdIs h f false) : h = none := by
  cases h with
  | none => rfl
  | some x => exact absurd e.1 (by decide)
theorem HdIs.yes {h : Option GE} {f : GE} (e : HdIs h f true) : h = some f := by
  cases h with
  | none => exact absurd e (by simp [HdIs])
  | some x => rw [e.2]
theorem next_right {l r : Tr} {hl hr : Option GE} (h : goR hl hr = true) : (Tr.pair l hl r hr).next = (hr, .pair l hl r.next.2 r.next.1) := by rw [Tr.next, if_pos h]
theorem next_left {l r : Tr} {hl hr : Option GE} (h : goR hl hr = false) : (Tr.pair l hl r hr).next = (hl, .pair l.next.2 l.next.1 r hr) := by rw [Tr.next, if_neg (by rw [h]; decide)]
theorem g_chain_to {w0 w w' : World} (h : Below w0.heap.size w0 w) (h2 : Below w.heap.size w w') (_hs : w0.heap.size ≤ w.heap.size) : Below w0.heap.size w0 w' := g_chain h h2

set_option maxRecDepth 10000 in
set_option maxHeartbeats 4000000 in
theorem pairNext (w0 w : World) (lo hi m P : Nat) (l r : Tr) (hl hr : Option GE) (vl vr : Value) (fl fr : GE) (bl br : Bool) (h1 : lo ≤ m) (h2 : m ≤ P) (h3 : P < hi) (hb : Blk w P (pairC vl fl bl vr fr br) 220) (hhl : HdIs hl fl bl) (hhr : HdIs hr fr br) (hsl : Src w0 w l lo m vl) (hsr : Src w0 w r m P vr) (hB : Below w0.heap.size w0 w)
    (IL : ∀ w', Src w0 w' l lo m vl → Below w0.heap.size w0 w' → NextAt w0 l lo m vl w') (IR : ∀ w', Src w0 w' r m P vr → Below w0.heap.size w0 w' → NextAt w0 r m P vr w') :
    Calls Try.prog 211 #[.pointer (some ⟨P, 0, none⟩)] w (NextIs w0 (.pair l hl r hr) lo hi (.iface 213 (.pointer (some ⟨P, 0, none⟩))) w) := by
  have HIL := Lib.hid IL
  have HIR := Lib.hid IR
  have HB := Lib.hid hb
  have HSL := Lib.hid hsl
  have HSR := Lib.hid hsr
  have HHL := Lib.hid hhl
  have HHR := Lib.hid hhr
  have HBL := Lib.hid hB
  have HSZ := Lib.hid hB.size
  have HRES := Lib.hid (Blk.new w #[.int .i64 0, .int .i64 0, .int .i64 0] 150)
  have HW := Lib.hid (below_a1 w (.cells #[.int .i64 0, .int .i64 0, .int .i64 0] 150))
  have hlt := hb.lt
  clear IL IR hb hsl hsr hhl hhr hB
  go_enter Try.func211, Try.ntmps211
  go_upto_region 2 with fail
  generalize w.alloc (.cells #[.int .i64 0, .int .i64 0, .int .i64 0] 150) = w1 at *
  obtain ⟨x1, x2, x3, x4, x6, x7, x8, x9⟩ := (HB.out.below HW.out).pairAt
  cases bl with
  | false =>
    have HNX := Lib.hid (next_right (l := l) (r := r) (hl := hl) (hr := hr) (by rw [HHL.out.no]; rfl))
    go_quiet (fail)
    rename Nat => k1
    have HW := Lib.hid (below_drewN HW.out k1)
    have HRES := Lib.hid (HRES.out.drewN k1)
    clear x1 x2 x3 x4 x6 x7 x8 x9
    generalize w1.drewN k1 = w2 at *
    go_upto_region 4 with fail
    obtain ⟨x1, x2, x3, x4, x6, x7, x8, x9⟩ := (HB.out.below HW.out).pairAt
    have hP2 : P < w2.heap.size := (HB.out.below HW.out).lt
    go_region
    have hq : w.heap.size < w2.heap.size := HRES.out.lt
    have HW := Lib.hid ((g_chain HW.out (below_a1 w2 (.cells #[.int .i64 fr.f, .int .i64 fr.t, .int .i64 fr.w] 150))).drew)
    have HRB := Lib.hid (Blk.new w2 #[.int .i64 fr.f, .int .i64 fr.t, .int .i64 fr.w] 150).drew
    have HRES := Lib.hid (HRES.out.alloc (.cells #[.int .i64 fr.f, .int .i64 fr.t, .int .i64 fr.w] 150)).drew
    clear x1 x2 x3 x4 x6 x7 x8 x9
    generalize (w2.alloc (.cells #[.int .i64 fr.f, .int .i64 fr.t, .int .i64 fr.w] 150)).drew = w3 at *
    generalize w2.heap.size = q3 at *
    have HBB := Lib.hid (g_chain_to HBL.out HW.out HSZ.out)
    have CD := Lib.hid (drawSide w0 w3 P 5 m P r vr (pairC vl fl false vr fr br) (Nat.le_refl _) (HB.out.below HW.out) (by simp [pairC]) rfl h2 (HIR.out w3 (HSR.out.keep (fun k _ _ hk => HW.out.block k hk)) HBB.out))
    go_wp2_with fail
    refine CD.out.mono ?_
    rintro e w4 ⟨rfl, f4, b4, hh4, hs4, hb4, hw4⟩
    have HW4 := Lib.hid hw4
    have RB4 := HRB.out.keep (HW4.out.block q3 HRB.out.lt (by omega))
    have RS4 := HRES.out.keep (HW4.out.block w.heap.size HRES.out.lt (by omega))
    have HB4 := Lib.hid hb4
    have HS4 := Lib.hid hs4
    have HH4 := Lib.hid hh4
    have r0 : w4.cell? ⟨q3, 0, none⟩ = some (.int .i64 fr.f) := RB4.cell rfl
    have r1 : w4.cell? ⟨q3, 1, none⟩ = some (.int .i64 fr.t) := RB4.cell rfl
    have r2 : w4.cell? ⟨q3, 2, none⟩ = some (.int .i64 fr.w) := RB4.cell rfl
    have s0 : w4.cell? ⟨w.heap.size, 0, none⟩ = some (.int .i64 0) := RS4.cell rfl
    have s1 : w4.cell? ⟨w.heap.size, 1, none⟩ = some (.int .i64 0) := RS4.cell rfl
    have s2 : w4.cell? ⟨w.heap.size, 2, none⟩ = some (.int .i64 0) := RS4.cell rfl
    have u0 := RS4.frozen 0
    have u1 := RS4.frozen 1
    have u2 := RS4.frozen 2
    clear hh4 hs4 hb4 hw4 RB4 RS4 CD
    go_wp2
    refine bodyPost_ret (v := .tuple #[.agg #[.int .i64 fr.f, .int .i64 fr.t, .int .i64 fr.w], .bool br]) (by simp [results, Try.results211, go_sem, s0, s1, s2]) rfl ?_
    have WS : Within w.heap.size (w.heap.size + 1) w4 (((w4.setCell ⟨w.heap.size, 0, none⟩ (.int .i64 fr.f)).setCell ⟨w.heap.size, 1, none⟩ (.int .i64 fr.t)).setCell ⟨w.heap.size, 2, none⟩ (.int .i64 fr.w)) :=
      Within.set (Within.set (Within.set (OnlyB.refl _ _) (by simp) _) (by simp) _) (by simp) _
    have WT : OnlyB (fun k => (m ≤ k ∧ k < P) ∨ k = P) w (((w4.setCell ⟨w.heap.size, 0, none⟩ (.int .i64 fr.f)).setCell ⟨w.heap.size, 1, none⟩ (.int .i64 fr.t)).setCell ⟨w.heap.size, 2, none⟩ (.int .i64 fr.w)) :=
      OnlyB.setNew (OnlyB.setNew (OnlyB.setNew ((OnlyB.below (OnlyB.refl _ _) HW.out).trans HW4.out) (by simp) _) (by simp) _) (by simp) _
    have HBF := HB4.out.within WS (.inl hlt)
    generalize ((w4.setCell ⟨w.heap.size, 0, none⟩ (.int .i64 fr.f)).setCell ⟨w.heap.size, 1, none⟩ (.int .i64 fr.t)).setCell ⟨w.heap.size, 2, none⟩ (.int .i64 fr.w) = w5 at *
    refine ⟨fr, br, rfl, by rw [HNX.out]; exact HHR.out, ?_, WT.mono (fun k hk => by omega)⟩
    rw [HNX.out]
    exact ⟨m, P, vl, fl, false, vr, f4, b4, h1, h2, h3, rfl, HBF, HHL.out, HH4.out, HSL.out.keep (fun k a b c => WT.block k c (by omega)), HS4.out.within WS (.inl (by omega))⟩
  | true =>
    cases br with
    | false =>
      have HNX := Lib.hid (next_left (l := l) (r := r) (hl := hl) (hr := hr) (by rw [HHL.out.yes, HHR.out.no]; rfl))
      go_quiet (fail)
      rename Nat => k1
      have HW := Lib.hid (below_drewN HW.out k1)
      have HRES := Lib.hid (HRES.out.drewN k1)
      clear x1 x2 x3 x4 x6 x7 x8 x9
      generalize w1.drewN k1 = w2 at *
      go_upto_region 4 with fail
      obtain ⟨x1, x2, x3, x4, x6, x7, x8, x9⟩ := (HB.out.below HW.out).pairAt
      have hP2 : P < w2.heap.size := (HB.out.below HW.out).lt
      go_region
      have hq : w.heap.size < w2.heap.size := HRES.out.lt
      have HW := Lib.hid ((g_chain HW.out (below_a1 w2 (.cells #[.int .i64 fl.f, .int .i64 fl.t, .int .i64 fl.w] 150))).drew)
      have HRB := Lib.hid (Blk.new w2 #[.int .i64 fl.f, .int .i64 fl.t, .int .i64 fl.w] 150).drew
      have HRES := Lib.hid (HRES.out.alloc (.cells #[.int .i64 fl.f, .int .i64 fl.t, .int .i64 fl.w] 150)).drew
      clear x1 x2 x3 x4 x6 x7 x8 x9
      generalize (w2.alloc (.cells #[.int .i64 fl.f, .int .i64 fl.t, .int .i64 fl.w] 150)).drew = w3 at *
      generalize w2.heap.size = q3 at *
      have HBB := Lib.hid (g_chain_to HBL.out HW.out HSZ.out)
      have CD := Lib.hid (drawSide w0 w3 P 0 lo m l vl (pairC vl fl true vr fr false) h2 (HB.out.below HW.out) (by simp [pairC]) rfl (by omega) (HIL.out w3 (HSL.out.keep (fun k _ _ hk => HW.out.block k hk)) HBB.out))
      go_wp2_with fail
      refine CD.out.mono ?_
      rintro e w4 ⟨rfl, f4, b4, hh4, hs4, hb4, hw4⟩
      have HW4 := Lib.hid hw4
      have RB4 := HRB.out.keep (HW4.out.block q3 HRB.out.lt (by omega))
      have RS4 := HRES.out.keep (HW4.out.block w.heap.size HRES.out.lt (by omega))
      have HB4 := Lib.hid hb4
      have HS4 := Lib.hid hs4
      have HH4 := Lib.hid hh4
      have r0 : w4.cell? ⟨q3, 0, none⟩ = some (.int .i64 fl.f) := RB4.cell rfl
      have r1 : w4.cell? ⟨q3, 1, none⟩ = some (.int .i64 fl.t) := RB4.cell rfl
      have r2 : w4.cell? ⟨q3, 2, none⟩ = some (.int .i64 fl.w) := RB4.cell rfl
      have s0 : w4.cell? ⟨w.heap.size, 0, none⟩ = some (.int .i64 0) := RS4.cell rfl
      have s1 : w4.cell? ⟨w.heap.size, 1, none⟩ = some (.int .i64 0) := RS4.cell rfl
      have s2 : w4.cell? ⟨w.heap.size, 2, none⟩ = some (.int .i64 0) := RS4.cell rfl
      have u0 := RS4.frozen 0
      have u1 := RS4.frozen 1
      have u2 := RS4.frozen 2
      clear hh4 hs4 hb4 hw4 RB4 RS4 CD
      go_wp2
      refine bodyPost_ret (v := .tuple #[.agg #[.int .i64 fl.f, .int .i64 fl.t, .int .i64 fl.w], .bool true]) (by simp [results, Try.results211, go_sem, s0, s1, s2]) rfl ?_
      have WS : Within w.heap.size (w.heap.size + 1) w4 (((w4.setCell ⟨w.heap.size, 0, none⟩ (.int .i64 fl.f)).setCell ⟨w.heap.size, 1, none⟩ (.int .i64 fl.t)).setCell ⟨w.heap.size, 2, none⟩ (.int .i64 fl.w)) :=
        Within.set (Within.set (Within.set (OnlyB.refl _ _) (by simp) _) (by simp) _) (by simp) _
      have WT : OnlyB (fun k => (lo ≤ k ∧ k < m) ∨ k = P) w (((w4.setCell ⟨w.heap.size, 0, none⟩ (.int .i64 fl.f)).setCell ⟨w.heap.size, 1, none⟩ (.int .i64 fl.t)).setCell ⟨w.heap.size, 2, none⟩ (.int .i64 fl.w)) :=
        OnlyB.setNew (OnlyB.setNew (OnlyB.setNew ((OnlyB.below (OnlyB.refl _ _) HW.out).trans HW4.out) (by simp) _) (by simp) _) (by simp) _
      have HBF := HB4.out.within WS (.inl hlt)
      generalize ((w4.setCell ⟨w.heap.size, 0, none⟩ (.int .i64 fl.f)).setCell ⟨w.heap.size, 1, none⟩ (.int .i64 fl.t)).setCell ⟨w.heap.size, 2, none⟩ (.int .i64 fl.w) = w5 at *
      refine ⟨fl, true, rfl, by rw [HNX.out]; exact HHL.out, ?_, WT.mono (fun k hk => by omega)⟩
      rw [HNX.out]
      exact ⟨m, P, vl, f4, b4, vr, fr, false, h1, h2, h3, rfl, HBF, HH4.out, HHR.out, HS4.out.within WS (.inl (by omega)), HSR.out.keep (fun k a b c => WT.block k c (by omega))⟩
    | true =>
      have CL := Lib.hid (fun W => implLess fr fl W)
      have HGO : Hid (goR hl hr = lessR fr fl) := Lib.hid (by rw [HHL.out.yes, HHR.out.yes]; rfl)
      refine wp_region_still_tail 23 (by kernel_rfl) (by kernel_rfl) ?_
      simp only [List.take_succ_cons, List.take_zero, List.drop_succ_cons, List.drop_zero]
      change wpStill _ _ (World.drew _) _ _ _
      repeat still_step
      refine wpStill_nil ?_
      change wpList _ _ _ _ _ (World.drew _)
      have HW := Lib.hid HW.out.drew
      have HRES := Lib.hid HRES.out.drew
      clear x1 x2 x3 x4 x6 x7 x8 x9
      generalize World.drew w1 = w1 at *
      cases hlr : lessR fr fl with
      | true =>
        have HNX := Lib.hid (next_right (l := l) (r := r) (hl := hl) (hr := hr) (by rw [HGO.out, hlr]))
        rw [hlr] at CL
        clear hlr
        go_wp2_with fail
        refine (CL.out _).mono ?_
        rintro e w2 ⟨rfl, hb2⟩
        have HW := Lib.hid (g_chain HW.out hb2)
        have HRES := Lib.hid (HRES.out.below hb2)
        clear hb2
        go_upto_region 4 with fail
        obtain ⟨x1, x2, x3, x4, x6, x7, x8, x9⟩ := (HB.out.below HW.out).pairAt
        have hP2 : P < w2.heap.size := (HB.out.below HW.out).lt
        go_region
        have hq : w.heap.size < w2.heap.size := HRES.out.lt
        have HW := Lib.hid ((g_chain HW.out (below_a1 w2 (.cells #[.int .i64 fr.f, .int .i64 fr.t, .int .i64 fr.w] 150))).drew)
        have HRB := Lib.hid (Blk.new w2 #[.int .i64 fr.f, .int .i64 fr.t, .int .i64 fr.w] 150).drew
        have HRES := Lib.hid (HRES.out.alloc (.cells #[.int .i64 fr.f, .int .i64 fr.t, .int .i64 fr.w] 150)).drew
        clear x1 x2 x3 x4 x6 x7 x8 x9
        generalize (w2.alloc (.cells #[.int .i64 fr.f, .int .i64 fr.t, .int .i64 fr.w] 150)).drew = w3 at *
        generalize w2.heap.size = q3 at *
        have HBB := Lib.hid (g_chain_to HBL.out HW.out HSZ.out)
        have CD := Lib.hid (drawSide w0 w3 P 5 m P r vr (pairC vl fl true vr fr true) (Nat.le_refl _) (HB.out.below HW.out) (by simp [pairC]) rfl h2 (HIR.out w3 (HSR.out.keep (fun k _ _ hk => HW.out.block k hk)) HBB.out))
        go_wp2_with fail
        refine CD.out.mono ?_
        rintro e w4 ⟨rfl, f4, b4, hh4, hs4, hb4, hw4⟩
        have HW4 := Lib.hid hw4
        have RB4 := HRB.out.keep (HW4.out.block q3 HRB.out.lt (by omega))
        have RS4 := HRES.out.keep (HW4.out.block w.heap.size HRES.out.lt (by omega))
        have HB4 := Lib.hid hb4
        have HS4 := Lib.hid hs4
        have HH4 := Lib.hid hh4
        have r0 : w4.cell? ⟨q3, 0, none⟩ = some (.int .i64 fr.f) := RB4.cell rfl
        have r1 : w4.cell? ⟨q3, 1, none⟩ = some (.int .i64 fr.t) := RB4.cell rfl
        have r2 : w4.cell? ⟨q3, 2, none⟩ = some (.int .i64 fr.w) := RB4.cell rfl
        have s0 : w4.cell? ⟨w.heap.size, 0, none⟩ = some (.int .i64 0) := RS4.cell rfl
        have s1 : w4.cell? ⟨w.heap.size, 1, none⟩ = some (.int .i64 0) := RS4.cell rfl
        have s2 : w4.cell? ⟨w.heap.size, 2, none⟩ = some (.int .i64 0) := RS4.cell rfl
        have u0 := RS4.frozen 0
        have u1 := RS4.frozen 1
        have u2 := RS4.frozen 2
        clear hh4 hs4 hb4 hw4 RB4 RS4 CD
        go_wp2
        refine bodyPost_ret (v := .tuple #[.agg #[.int .i64 fr.f, .int .i64 fr.t, .int .i64 fr.w], .bool true]) (by simp [results, Try.results211, go_sem, s0, s1, s2]) rfl ?_
        have WS : Within w.heap.size (w.heap.size + 1) w4 (((w4.setCell ⟨w.heap.size, 0, none⟩ (.int .i64 fr.f)).setCell ⟨w.heap.size, 1, none⟩ (.int .i64 fr.t)).setCell ⟨w.heap.size, 2, none⟩ (.int .i64 fr.w)) :=
          Within.set (Within.set (Within.set (OnlyB.refl _ _) (by simp) _) (by simp) _) (by simp) _
        have WT : OnlyB (fun k => (m ≤ k ∧ k < P) ∨ k = P) w (((w4.setCell ⟨w.heap.size, 0, none⟩ (.int .i64 fr.f)).setCell ⟨w.heap.size, 1, none⟩ (.int .i64 fr.t)).setCell ⟨w.heap.size, 2, none⟩ (.int .i64 fr.w)) :=
          OnlyB.setNew (OnlyB.setNew (OnlyB.setNew ((OnlyB.below (OnlyB.refl _ _) HW.out).trans HW4.out) (by simp) _) (by simp) _) (by simp) _
        have HBF := HB4.out.within WS (.inl hlt)
        generalize ((w4.setCell ⟨w.heap.size, 0, none⟩ (.int .i64 fr.f)).setCell ⟨w.heap.size, 1, none⟩ (.int .i64 fr.t)).setCell ⟨w.heap.size, 2, none⟩ (.int .i64 fr.w) = w5 at *
        refine ⟨fr, true, rfl, by rw [HNX.out]; exact HHR.out, ?_, WT.mono (fun k hk => by omega)⟩
        rw [HNX.out]
        exact ⟨m, P, vl, fl, true, vr, f4, b4, h1, h2, h3, rfl, HBF, HHL.out, HH4.out, HSL.out.keep (fun k a b c => WT.block k c (by omega)), HS4.out.within WS (.inl (by omega))⟩
      | false =>
        have HNX := Lib.hid (next_left (l := l) (r := r) (hl := hl) (hr := hr) (by rw [HGO.out, hlr]))
        rw [hlr] at CL
        clear hlr
        go_wp2_with fail
        refine (CL.out _).mono ?_
        rintro e w2 ⟨rfl, hb2⟩
        have HW := Lib.hid (g_chain HW.out hb2)
        have HRES := Lib.hid (HRES.out.below hb2)
        clear hb2
        go_upto_region 4 with fail
        obtain ⟨x1, x2, x3, x4, x6, x7, x8, x9⟩ := (HB.out.below HW.out).pairAt
        have hP2 : P < w2.heap.size := (HB.out.below HW.out).lt
        go_region
        have hq : w.heap.size < w2.heap.size := HRES.out.lt
        have HW := Lib.hid ((g_chain HW.out (below_a1 w2 (.cells #[.int .i64 fl.f, .int .i64 fl.t, .int .i64 fl.w] 150))).drew)
        have HRB := Lib.hid (Blk.new w2 #[.int .i64 fl.f, .int .i64 fl.t, .int .i64 fl.w] 150).drew
        have HRES := Lib.hid (HRES.out.alloc (.cells #[.int .i64 fl.f, .int .i64 fl.t, .int .i64 fl.w] 150)).drew
        clear x1 x2 x3 x4 x6 x7 x8 x9
        generalize (w2.alloc (.cells #[.int .i64 fl.f, .int .i64 fl.t, .int .i64 fl.w] 150)).drew = w3 at *
        generalize w2.heap.size = q3 at *
        have HBB := Lib.hid (g_chain_to HBL.out HW.out HSZ.out)
        have CD := Lib.hid (drawSide w0 w3 P 0 lo m l vl (pairC vl fl true vr fr true) h2 (HB.out.below HW.out) (by simp [pairC]) rfl (by omega) (HIL.out w3 (HSL.out.keep (fun k _ _ hk => HW.out.block k hk)) HBB.out))
        go_wp2_with fail
        refine CD.out.mono ?_
        rintro e w4 ⟨rfl, f4, b4, hh4, hs4, hb4, hw4⟩
        have HW4 := Lib.hid hw4
        have RB4 := HRB.out.keep (HW4.out.block q3 HRB.out.lt (by omega))
        have RS4 := HRES.out.keep (HW4.out.block w.heap.size HRES.out.lt (by omega))
        have HB4 := Lib.hid hb4
        have HS4 := Lib.hid hs4
        have HH4 := Lib.hid hh4
        have r0 : w4.cell? ⟨q3, 0, none⟩ = some (.int .i64 fl.f) := RB4.cell rfl
        have r1 : w4.cell? ⟨q3, 1, none⟩ = some (.int .i64 fl.t) := RB4.cell rfl
        have r2 : w4.cell? ⟨q3, 2, none⟩ = some (.int .i64 fl.w) := RB4.cell rfl
        have s0 : w4.cell? ⟨w.heap.size, 0, none⟩ = some (.int .i64 0) := RS4.cell rfl
        have s1 : w4.cell? ⟨w.heap.size, 1, none⟩ = some (.int .i64 0) := RS4.cell rfl
        have s2 : w4.cell? ⟨w.heap.size, 2, none⟩ = some (.int .i64 0) := RS4.cell rfl
        have u0 := RS4.frozen 0
        have u1 := RS4.frozen 1
        have u2 := RS4.frozen 2
        clear hh4 hs4 hb4 hw4 RB4 RS4 CD
        go_wp2
        refine bodyPost_ret (v := .tuple #[.agg #[.int .i64 fl.f, .int .i64 fl.t, .int .i64 fl.w], .bool true]) (by simp [results, Try.results211, go_sem, s0, s1, s2]) rfl ?_
        have WS : Within w.heap.size (w.heap.size + 1) w4 (((w4.setCell ⟨w.heap.size, 0, none⟩ (.int .i64 fl.f)).setCell ⟨w.heap.size, 1, none⟩ (.int .i64 fl.t)).setCell ⟨w.heap.size, 2, none⟩ (.int .i64 fl.w)) :=
          Within.set (Within.set (Within.set (OnlyB.refl _ _) (by simp) _) (by simp) _) (by simp) _
        have WT : OnlyB (fun k => (lo ≤ k ∧ k < m) ∨ k = P) w (((w4.setCell ⟨w.heap.size, 0, none⟩ (.int .i64 fl.f)).setCell ⟨w.heap.size, 1, none⟩ (.int .i64 fl.t)).setCell ⟨w.heap.size, 2, none⟩ (.int .i64 fl.w)) :=
          OnlyB.setNew (OnlyB.setNew (OnlyB.setNew ((OnlyB.below (OnlyB.refl _ _) HW.out).trans HW4.out) (by simp) _) (by simp) _) (by simp) _
        have HBF := HB4.out.within WS (.inl hlt)
        generalize ((w4.setCell ⟨w.heap.size, 0, none⟩ (.int .i64 fl.f)).setCell ⟨w.heap.size, 1, none⟩ (.int .i64 fl.t)).setCell ⟨w.heap.size, 2, none⟩ (.int .i64 fl.w) = w5 at *
        refine ⟨fl, true, rfl, by rw [HNX.out]; exact HHL.out, ?_, WT.mono (fun k hk => by omega)⟩
        rw [HNX.out]
        exact ⟨m, P, vl, f4, b4, vr, fr, true, h1, h2, h3, rfl, HBF, HH4.out, HHR.out, HS4.out.within WS (.inl (by omega)), HSR.out.keep (fun k a b c => WT.block k c (by omega))⟩

theorem srcNext (w0 : World) : ∀ (t : Tr) (lo hi : Nat) (v : Value) (w : World), Src w0 w t lo hi v → Below w0.heap.size w0 w → NextAt w0 t lo hi v w
  | .leaf es, lo, hi, v, w, h, hB => by
    obtain ⟨L, A, n, c, h1, h2, rfl, hb, hs, hc⟩ := h
    exact ⟨_, _, _, rfl, .inl ⟨rfl, rfl⟩, listNext w0 w lo hi L A n c es h1 h2 hb hs hc hB⟩
  | .pair l hl r hr, lo, hi, v, w, h, hB => by
    obtain ⟨m, P, vl, fl, bl, vr, fr, br, h1, h2, h3, rfl, hb, hhl, hhr, hsl, hsr⟩ := h
    exact ⟨_, _, _, rfl, .inr ⟨rfl, rfl⟩, pairNext w0 w lo hi m P l r hl hr vl vr fl fr bl br h1 h2 h3 hb hhl hhr hsl hsr hB (fun w' h hb => srcNext w0 l lo m vl w' h hb) (fun w' h hb => srcNext w0 r m P vr w' h hb)⟩
end Go.Proofs.Ytpgnappddddlpaa
