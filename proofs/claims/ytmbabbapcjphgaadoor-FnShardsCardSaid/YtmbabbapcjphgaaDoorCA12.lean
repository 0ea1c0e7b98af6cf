/- The contracts of the program's sources of records: the next record of a list, of a pair; a side's drawing. Condition: the lists read in a world that nothing has overwritten. // The contracts of the program's pairs of sources, of its tree over batches and of its Merge. Condition: at most 2^20 batches and records. // The contracts of the model's and of the program's SortAll. Condition: at most 2^20 records. -/
import Derived.Test.YtmbabbapcjphgaaDoorCA11
import Derived.Test.YtmbabbapcjphgaaDoorCA10
import Derived.Handy
import Derived.StillTailTactics
import Derived.Deep.RegionLaw
import Derived.Deep.Cut
import Derived.Test.YtmbabbapcjphgaaDoorKBatI
namespace Go.Proofs.YtmbabbapcjphgaaDoor
open Go.RowKit

theorem rec_tail {P : Option Addr} {n c m : Nat} {es : List GE} {w : World} (hr : SlG w P n es) (hm : m + 1 = n) (hc : n ≤ c) :
    ∃ P', (∀ W, (Instr.slice 65 (.slice P n c) (some (.int .i64 1)) none none).run Tryd.prog W = .ok (.slice P' m (c - 1)) W) ∧ SlG w P' m (es.drop 1) := by
  obtain ⟨P', h1, h2⟩ := rec_from (k := 1) hr (by omega) hc
  rw [show n - 1 = m by omega] at h1 h2
  exact ⟨P', h1, h2⟩

set_option maxRecDepth 10000 in
set_option maxHeartbeats 1000000 in
theorem listNext (w0 w : World) (lo hi L : Nat) (A : Option Addr) (n c : Nat) (es : List GE) (h1 : lo ≤ L) (h2 : L < hi) (hb : Blk w L #[.slice A n c] 170) (hs : SlG w0 A n es) (hc : n ≤ c) (hB : Below w0.heap.size w0 w) :
    Calls Tryd.prog 180 #[.pointer (some ⟨L, 0, none⟩)] w (NextIs w0 (.leaf es) lo hi (.iface 168 (.pointer (some ⟨L, 0, none⟩))) w) := by
  have hLs := hb.lt
  have x0 := hb.cell (i := 0) rfl
  have xf := hb.frozen 0
  have HBK := Lib.hid hb
  have HBL := Lib.hid hB
  have HS := Lib.hid hs
  rcases Nat.eq_zero_or_pos n with rfl | hpos
  · obtain rfl : es = [] := List.eq_nil_of_length_eq_zero hs.len
    clear hs hB hb
    go_enter Tryd.func180, Tryd.ntmps180
    go_wp2
    refine bodyPost_ret (v := .tuple #[.agg #[.int .i64 0, .int .i64 0, .int .i64 0], .bool false]) (by simp [results, Tryd.results180, go_sem]) rfl ?_
    exact ⟨zeroG, false, rfl, rfl, ⟨L, A, 0, c, h1, h2, rfl, HBK.out.alloc _, HS.out, hc⟩, Within.alloc (OnlyB.refl _ _) _⟩
  · obtain ⟨m, hm⟩ : ∃ m, m + 1 = n := ⟨n - 1, by omega⟩
    obtain ⟨P', hrun, hsl⟩ := rec_tail hs hm hc
    obtain ⟨b, off, x, rfl, hbw, he, c0, c1, c2⟩ := hs.at_ (j := 0) hpos
    have c0 := (hB.cell (p := ⟨b, off + 0 * 3, none⟩) hbw).trans c0
    have c1 := (hB.cell (p := ⟨b, off + 0 * 3 + 1, none⟩) hbw).trans c1
    have c2 := (hB.cell (p := ⟨b, off + 0 * 3 + 2, none⟩) hbw).trans c2
    simp only [Nat.zero_mul, Nat.add_zero] at c0 c1 c2
    have hbs : b < w.heap.size := Nat.lt_of_lt_of_le hbw hB.size
    have hn0 : ((n : Int) == 0) = false := by simp; omega
    have HSL := Lib.hid hsl
    clear hs hB hb hsl
    go_enter Tryd.func180, Tryd.ntmps180
    go_wp2
    refine bodyPost_ret (v := .tuple #[.agg #[.int .i64 x.f, .int .i64 x.t, .int .i64 x.w], .bool true]) (by simp [results, Tryd.results180, go_sem]) rfl ?_
    obtain ⟨r, rfl⟩ : ∃ r, es = x :: r := by
      cases es with
      | nil => exact absurd he.out (by simp)
      | cons y r =>
        have := he.out
        simp at this
        subst this
        exact ⟨r, rfl⟩
    have hset := HBK.out.set 0 (.slice P' m (c - 1))
    exact ⟨x, true, rfl, ⟨rfl, rfl⟩, ⟨L, P', m, c - 1, h1, h2, rfl, (by simpa using hset : Blk _ L #[.slice P' m (c - 1)] _).alloc _ |>.alloc _, HSL.out, by omega⟩, Within.alloc (Within.alloc (Within.set (OnlyB.refl _ _) (p := ⟨L, 0, none⟩) ⟨h1, h2⟩ _) _) _⟩

/-- A source's next, whatever its dynamic type. -/
def NextAt (w0 : World) (t : Tr) (lo hi : Nat) (v : Value) (w : World) : Prop :=
  ∃ (ty f : Nat) (a : Option Addr), v = .iface ty (.pointer a) ∧ ((ty = 168 ∧ f = 180) ∨ (ty = 171 ∧ f = 181)) ∧ Calls Tryd.prog f #[.pointer a] w (NextIs w0 t lo hi v w)
/-- A side's four cells behind its source's. -/
def sideC (cs : Array Value) (o : Nat) (f : GE) (b : Bool) : Array Value := (((cs.setIfInBounds (o + 1) (.int .i64 f.f)).setIfInBounds (o + 2) (.int .i64 f.t)).setIfInBounds (o + 3) (.int .i64 f.w)).setIfInBounds (o + 4) (.bool b)
def Drew (w0 : World) (t : Tr) (P o lo hi : Nat) (v : Value) (cs : Array Value) (w : World) (e : Ending) (w' : World) : Prop :=
  e = .returned (.tuple #[]) ∧ ∃ (f : GE) (b : Bool), HdIs t.next.1 f b ∧ Src w0 w' t.next.2 lo hi v ∧ Blk w' P (sideC cs o f b) 181 ∧ OnlyB (fun k => (lo ≤ k ∧ k < hi) ∨ k = P) w w'

set_option maxRecDepth 10000 in
set_option maxHeartbeats 1000000 in
theorem drawSide (w0 w : World) (P o lo hi : Nat) (t : Tr) (v : Value) (cs : Array Value) (hP : hi ≤ P) (hb : Blk w P cs 181) (ho : o + 4 < cs.size) (hv : cs[o]? = some v) (_hlo : lo ≤ P) (hN : NextAt w0 t lo hi v w) :
    Calls Tryd.prog 95 #[.pointer (some ⟨P, o, none⟩)] w (Drew w0 t P o lo hi v cs w) := by
  have x0 := hb.cell (i := o) hv
  have HB := Lib.hid hb
  obtain ⟨ty, f, a, rfl, hty, hC⟩ := hN
  have HC := Lib.hid hC
  clear hC hb
  rcases hty with ⟨rfl, rfl⟩ | ⟨rfl, rfl⟩
  · go_enter Tryd.func95, Tryd.ntmps95
    go_wp2_with fail
    refine HC.out.mono ?_
    rintro e w1 ⟨f, b, rfl, hh, hsrc, hw⟩
    have HB1 := Lib.hid (HB.out.within hw (.inr hP))
    have HH := Lib.hid hh
    have HSRC := Lib.hid hsrc
    have HW := Lib.hid hw
    have f1 := HB1.out.frozen (o + 1)
    have f2 := HB1.out.frozen (o + 1 + 1)
    have f3 := HB1.out.frozen (o + 1 + 2)
    have f4 := HB1.out.frozen (o + 4)
    have c1 := HB1.out.cell (i := o + 1) (Array.getElem?_eq_getElem (by omega))
    have c2 := HB1.out.cell (i := o + 1 + 1) (Array.getElem?_eq_getElem (by omega))
    have c3 := HB1.out.cell (i := o + 1 + 2) (Array.getElem?_eq_getElem (by omega))
    have c4 := HB1.out.cell (i := o + 4) (Array.getElem?_eq_getElem (by omega))
    generalize cs[o + 1] = v1 at c1
    generalize cs[o + 1 + 1] = v2 at c2
    generalize cs[o + 1 + 2] = v3 at c3
    generalize cs[o + 4] = v4 at c4
    clear hh hsrc hw HB x0
    go_wp2
    go_end0
    have WS : Within P (P + 1) w1 ((((w1.setCell ⟨P, o + 1, none⟩ (.int .i64 f.f)).setCell ⟨P, o + 1 + 1, none⟩ (.int .i64 f.t)).setCell ⟨P, o + 1 + 2, none⟩ (.int .i64 f.w)).setCell ⟨P, o + 4, none⟩ (.bool b)) :=
      Within.set (Within.set (Within.set (Within.set (OnlyB.refl _ _) (by simp) _) (by simp) _) (by simp) _) (by simp) _
    exact ⟨rfl, f, b, HH.out, HSRC.out.within WS (.inl hP), (((HB1.out.set (o + 1) _).set (o + 1 + 1) _).set (o + 1 + 2) _).set (o + 4) _, (OnlyB.mono HW.out (fun k hk => .inl hk)).trans (OnlyB.mono WS (fun k hk => .inr (by omega)))⟩
  · go_enter Tryd.func95, Tryd.ntmps95
    go_wp2_with fail
    refine HC.out.mono ?_
    rintro e w1 ⟨f, b, rfl, hh, hsrc, hw⟩
    have HB1 := Lib.hid (HB.out.within hw (.inr hP))
    have HH := Lib.hid hh
    have HSRC := Lib.hid hsrc
    have HW := Lib.hid hw
    have f1 := HB1.out.frozen (o + 1)
    have f2 := HB1.out.frozen (o + 1 + 1)
    have f3 := HB1.out.frozen (o + 1 + 2)
    have f4 := HB1.out.frozen (o + 4)
    have c1 := HB1.out.cell (i := o + 1) (Array.getElem?_eq_getElem (by omega))
    have c2 := HB1.out.cell (i := o + 1 + 1) (Array.getElem?_eq_getElem (by omega))
    have c3 := HB1.out.cell (i := o + 1 + 2) (Array.getElem?_eq_getElem (by omega))
    have c4 := HB1.out.cell (i := o + 4) (Array.getElem?_eq_getElem (by omega))
    generalize cs[o + 1] = v1 at c1
    generalize cs[o + 1 + 1] = v2 at c2
    generalize cs[o + 1 + 2] = v3 at c3
    generalize cs[o + 4] = v4 at c4
    clear hh hsrc hw HB x0
    go_wp2
    go_end0
    have WS : Within P (P + 1) w1 ((((w1.setCell ⟨P, o + 1, none⟩ (.int .i64 f.f)).setCell ⟨P, o + 1 + 1, none⟩ (.int .i64 f.t)).setCell ⟨P, o + 1 + 2, none⟩ (.int .i64 f.w)).setCell ⟨P, o + 4, none⟩ (.bool b)) :=
      Within.set (Within.set (Within.set (Within.set (OnlyB.refl _ _) (by simp) _) (by simp) _) (by simp) _) (by simp) _
    exact ⟨rfl, f, b, HH.out, HSRC.out.within WS (.inl hP), (((HB1.out.set (o + 1) _).set (o + 1 + 1) _).set (o + 1 + 2) _).set (o + 4) _, (OnlyB.mono HW.out (fun k hk => .inl hk)).trans (OnlyB.mono WS (fun k hk => .inr (by omega)))⟩

/-! ### a pair's next -/
def pairC2 (vl : Value) (fl : GE) (bl : Bool) (vr : Value) (fr : GE) (br : Bool) : Array Value := pairC vl fl bl vr fr br
theorem side_left (vl : Value) (fl : GE) (bl : Bool) (vr : Value) (fr : GE) (br : Bool) (f : GE) (b : Bool) : sideC (pairC vl fl bl vr fr br) 0 f b = pairC vl f b vr fr br := rfl
theorem side_right (vl : Value) (fl : GE) (bl : Bool) (vr : Value) (fr : GE) (br : Bool) (f : GE) (b : Bool) : sideC (pairC vl fl bl vr fr br) 5 f b = pairC vl fl bl vr f b := rfl
theorem Blk.pairAt {w : World} {P : Nat} {t : TypeId} {vl vr : Value} {fl fr : GE} {bl br : Bool} (h : Blk w P (pairC vl fl bl vr fr br) t) :
    w.cell? ⟨P, 1, none⟩ = some (.int .i64 fl.f) ∧ w.cell? ⟨P, 1 + 1, none⟩ = some (.int .i64 fl.t) ∧ w.cell? ⟨P, 1 + 2, none⟩ = some (.int .i64 fl.w) ∧ w.cell? ⟨P, 4, none⟩ = some (.bool bl) ∧
    w.cell? ⟨P, 6, none⟩ = some (.int .i64 fr.f) ∧ w.cell? ⟨P, 6 + 1, none⟩ = some (.int .i64 fr.t) ∧ w.cell? ⟨P, 6 + 2, none⟩ = some (.int .i64 fr.w) ∧ w.cell? ⟨P, 9, none⟩ = some (.bool br) :=
  ⟨h.cell rfl, h.cell rfl, h.cell rfl, h.cell rfl, h.cell rfl, h.cell rfl, h.cell rfl, h.cell rfl⟩

theorem HdIs.no {h : Option GE} {f : GE} (e : HdIs h f false) : h = none := by
  cases h with
  | none => rfl
  | some x => exact absurd e.1 (by decide)
theorem HdIs.yes {h : Option GE} {f : GE} (e : HdIs h f true) : h = some f := by
  cases h with
  | none => exact absurd e (by simp [HdIs])
  | some x => rw [e.2]
theorem next_right {l r : Tr} {hl hr : Option GE} (h : goR hl hr = true) : (Tr.pair l hl r hr).next = (hr, .pair l hl r.next.2 r.next.1) := by rw [Tr.next, if_pos h]
theorem next_left {l r : Tr} {hl hr : Option GE} (h : goR hl hr = false) : (Tr.pair l hl r hr).next = (hl, .pair l.next.2 l.next.1 r hr) := by rw [Tr.next, if_neg (by rw [h]; decide)]
theorem g_chain_to {w0 w w' : World} (h : Below w0.heap.size w0 w) (h2 : Below w.heap.size w w') (_hs : w0.heap.size ≤ w.heap.size) : Below w0.heap.size w0 w' := g_chain h h2

set_option maxRecDepth 10000 in
set_option maxHeartbeats 4000000 in
theorem pairNext (w0 w : World) (lo hi m P : Nat) (l r : Tr) (hl hr : Option GE) (vl vr : Value) (fl fr : GE) (bl br : Bool) (h1 : lo ≤ m) (h2 : m ≤ P) (h3 : P < hi) (hb : Blk w P (pairC vl fl bl vr fr br) 181) (hhl : HdIs hl fl bl) (hhr : HdIs hr fr br) (hsl : Src w0 w l lo m vl) (hsr : Src w0 w r m P vr) (hB : Below w0.heap.size w0 w)
    (IL : ∀ w', Src w0 w' l lo m vl → Below w0.heap.size w0 w' → NextAt w0 l lo m vl w') (IR : ∀ w', Src w0 w' r m P vr → Below w0.heap.size w0 w' → NextAt w0 r m P vr w') :
    Calls Tryd.prog 181 #[.pointer (some ⟨P, 0, none⟩)] w (NextIs w0 (.pair l hl r hr) lo hi (.iface 171 (.pointer (some ⟨P, 0, none⟩))) w) := by
  have HIL := Lib.hid IL
  have HIR := Lib.hid IR
  have HB := Lib.hid hb
  have HSL := Lib.hid hsl
  have HSR := Lib.hid hsr
  have HHL := Lib.hid hhl
  have HHR := Lib.hid hhr
  have HBL := Lib.hid hB
  have HSZ := Lib.hid hB.size
  have HRES := Lib.hid (Blk.new w #[.int .i64 0, .int .i64 0, .int .i64 0] 68)
  have HW := Lib.hid (below_a1 w (.cells #[.int .i64 0, .int .i64 0, .int .i64 0] 68))
  have hlt := hb.lt
  clear IL IR hb hsl hsr hhl hhr hB
  go_enter Tryd.func181, Tryd.ntmps181
  go_upto_region 2 with fail
  generalize w.alloc (.cells #[.int .i64 0, .int .i64 0, .int .i64 0] 68) = w1 at *
  obtain ⟨x1, x2, x3, x4, x6, x7, x8, x9⟩ := (HB.out.below HW.out).pairAt
  cases bl with
  | false =>
    have HNX := Lib.hid (next_right (l := l) (r := r) (hl := hl) (hr := hr) (by rw [HHL.out.no]; rfl))
    go_quiet (fail)
    rename Nat => k1
    have HW := Lib.hid (below_drewN HW.out k1)
    have HRES := Lib.hid (HRES.out.drewN k1)
    clear x1 x2 x3 x4 x6 x7 x8 x9
    generalize w1.drewN k1 = w2 at *
    go_upto_region 4 with fail
    obtain ⟨x1, x2, x3, x4, x6, x7, x8, x9⟩ := (HB.out.below HW.out).pairAt
    have hP2 : P < w2.heap.size := (HB.out.below HW.out).lt
    go_region
    have hq : w.heap.size < w2.heap.size := HRES.out.lt
    have HW := Lib.hid ((g_chain HW.out (below_a1 w2 (.cells #[.int .i64 fr.f, .int .i64 fr.t, .int .i64 fr.w] 68))).drew)
    have HRB := Lib.hid (Blk.new w2 #[.int .i64 fr.f, .int .i64 fr.t, .int .i64 fr.w] 68).drew
    have HRES := Lib.hid (HRES.out.alloc (.cells #[.int .i64 fr.f, .int .i64 fr.t, .int .i64 fr.w] 68)).drew
    clear x1 x2 x3 x4 x6 x7 x8 x9
    generalize (w2.alloc (.cells #[.int .i64 fr.f, .int .i64 fr.t, .int .i64 fr.w] 68)).drew = w3 at *
    generalize w2.heap.size = q3 at *
    have HBB := Lib.hid (g_chain_to HBL.out HW.out HSZ.out)
    have CD := Lib.hid (drawSide w0 w3 P 5 m P r vr (pairC vl fl false vr fr br) (Nat.le_refl _) (HB.out.below HW.out) (by simp [pairC]) rfl h2 (HIR.out w3 (HSR.out.keep (fun k _ _ hk => HW.out.block k hk)) HBB.out))
    go_wp2_with fail
    refine CD.out.mono ?_
    rintro e w4 ⟨rfl, f4, b4, hh4, hs4, hb4, hw4⟩
    have HW4 := Lib.hid hw4
    have RB4 := HRB.out.keep (HW4.out.block q3 HRB.out.lt (by omega))
    have RS4 := HRES.out.keep (HW4.out.block w.heap.size HRES.out.lt (by omega))
    have HB4 := Lib.hid hb4
    have HS4 := Lib.hid hs4
    have HH4 := Lib.hid hh4
    have r0 : w4.cell? ⟨q3, 0, none⟩ = some (.int .i64 fr.f) := RB4.cell rfl
    have r1 : w4.cell? ⟨q3, 1, none⟩ = some (.int .i64 fr.t) := RB4.cell rfl
    have r2 : w4.cell? ⟨q3, 2, none⟩ = some (.int .i64 fr.w) := RB4.cell rfl
    have s0 : w4.cell? ⟨w.heap.size, 0, none⟩ = some (.int .i64 0) := RS4.cell rfl
    have s1 : w4.cell? ⟨w.heap.size, 1, none⟩ = some (.int .i64 0) := RS4.cell rfl
    have s2 : w4.cell? ⟨w.heap.size, 2, none⟩ = some (.int .i64 0) := RS4.cell rfl
    have u0 := RS4.frozen 0
    have u1 := RS4.frozen 1
    have u2 := RS4.frozen 2
    clear hh4 hs4 hb4 hw4 RB4 RS4 CD
    go_wp2
    refine bodyPost_ret (v := .tuple #[.agg #[.int .i64 fr.f, .int .i64 fr.t, .int .i64 fr.w], .bool br]) (by simp [results, Tryd.results181, go_sem, s0, s1, s2]) rfl ?_
    have WS : Within w.heap.size (w.heap.size + 1) w4 (((w4.setCell ⟨w.heap.size, 0, none⟩ (.int .i64 fr.f)).setCell ⟨w.heap.size, 1, none⟩ (.int .i64 fr.t)).setCell ⟨w.heap.size, 2, none⟩ (.int .i64 fr.w)) :=
      Within.set (Within.set (Within.set (OnlyB.refl _ _) (by simp) _) (by simp) _) (by simp) _
    have WT : OnlyB (fun k => (m ≤ k ∧ k < P) ∨ k = P) w (((w4.setCell ⟨w.heap.size, 0, none⟩ (.int .i64 fr.f)).setCell ⟨w.heap.size, 1, none⟩ (.int .i64 fr.t)).setCell ⟨w.heap.size, 2, none⟩ (.int .i64 fr.w)) :=
      OnlyB.setNew (OnlyB.setNew (OnlyB.setNew ((OnlyB.below (OnlyB.refl _ _) HW.out).trans HW4.out) (by simp) _) (by simp) _) (by simp) _
    have HBF := HB4.out.within WS (.inl hlt)
    generalize ((w4.setCell ⟨w.heap.size, 0, none⟩ (.int .i64 fr.f)).setCell ⟨w.heap.size, 1, none⟩ (.int .i64 fr.t)).setCell ⟨w.heap.size, 2, none⟩ (.int .i64 fr.w) = w5 at *
    refine ⟨fr, br, rfl, by rw [HNX.out]; exact HHR.out, ?_, WT.mono (fun k hk => by omega)⟩
    rw [HNX.out]
    exact ⟨m, P, vl, fl, false, vr, f4, b4, h1, h2, h3, rfl, HBF, HHL.out, HH4.out, HSL.out.keep (fun k a b c => WT.block k c (by omega)), HS4.out.within WS (.inl (by omega))⟩
  | true =>
    cases br with
    | false =>
      have HNX := Lib.hid (next_left (l := l) (r := r) (hl := hl) (hr := hr) (by rw [HHL.out.yes, HHR.out.no]; rfl))
      go_quiet (fail)
      rename Nat => k1
      have HW := Lib.hid (below_drewN HW.out k1)
      have HRES := Lib.hid (HRES.out.drewN k1)
      clear x1 x2 x3 x4 x6 x7 x8 x9
      generalize w1.drewN k1 = w2 at *
      go_upto_region 4 with fail
      obtain ⟨x1, x2, x3, x4, x6, x7, x8, x9⟩ := (HB.out.below HW.out).pairAt
      have hP2 : P < w2.heap.size := (HB.out.below HW.out).lt
      go_region
      have hq : w.heap.size < w2.heap.size := HRES.out.lt
      have HW := Lib.hid ((g_chain HW.out (below_a1 w2 (.cells #[.int .i64 fl.f, .int .i64 fl.t, .int .i64 fl.w] 68))).drew)
      have HRB := Lib.hid (Blk.new w2 #[.int .i64 fl.f, .int .i64 fl.t, .int .i64 fl.w] 68).drew
      have HRES := Lib.hid (HRES.out.alloc (.cells #[.int .i64 fl.f, .int .i64 fl.t, .int .i64 fl.w] 68)).drew
      clear x1 x2 x3 x4 x6 x7 x8 x9
      generalize (w2.alloc (.cells #[.int .i64 fl.f, .int .i64 fl.t, .int .i64 fl.w] 68)).drew = w3 at *
      generalize w2.heap.size = q3 at *
      have HBB := Lib.hid (g_chain_to HBL.out HW.out HSZ.out)
      have CD := Lib.hid (drawSide w0 w3 P 0 lo m l vl (pairC vl fl true vr fr false) h2 (HB.out.below HW.out) (by simp [pairC]) rfl (by omega) (HIL.out w3 (HSL.out.keep (fun k _ _ hk => HW.out.block k hk)) HBB.out))
      go_wp2_with fail
      refine CD.out.mono ?_
      rintro e w4 ⟨rfl, f4, b4, hh4, hs4, hb4, hw4⟩
      have HW4 := Lib.hid hw4
      have RB4 := HRB.out.keep (HW4.out.block q3 HRB.out.lt (by omega))
      have RS4 := HRES.out.keep (HW4.out.block w.heap.size HRES.out.lt (by omega))
      have HB4 := Lib.hid hb4
      have HS4 := Lib.hid hs4
      have HH4 := Lib.hid hh4
      have r0 : w4.cell? ⟨q3, 0, none⟩ = some (.int .i64 fl.f) := RB4.cell rfl
      have r1 : w4.cell? ⟨q3, 1, none⟩ = some (.int .i64 fl.t) := RB4.cell rfl
      have r2 : w4.cell? ⟨q3, 2, none⟩ = some (.int .i64 fl.w) := RB4.cell rfl
      have s0 : w4.cell? ⟨w.heap.size, 0, none⟩ = some (.int .i64 0) := RS4.cell rfl
      have s1 : w4.cell? ⟨w.heap.size, 1, none⟩ = some (.int .i64 0) := RS4.cell rfl
      have s2 : w4.cell? ⟨w.heap.size, 2, none⟩ = some (.int .i64 0) := RS4.cell rfl
      have u0 := RS4.frozen 0
      have u1 := RS4.frozen 1
      have u2 := RS4.frozen 2
      clear hh4 hs4 hb4 hw4 RB4 RS4 CD
      go_wp2
      refine bodyPost_ret (v := .tuple #[.agg #[.int .i64 fl.f, .int .i64 fl.t, .int .i64 fl.w], .bool true]) (by simp [results, Tryd.results181, go_sem, s0, s1, s2]) rfl ?_
      have WS : Within w.heap.size (w.heap.size + 1) w4 (((w4.setCell ⟨w.heap.size, 0, none⟩ (.int .i64 fl.f)).setCell ⟨w.heap.size, 1, none⟩ (.int .i64 fl.t)).setCell ⟨w.heap.size, 2, none⟩ (.int .i64 fl.w)) :=
        Within.set (Within.set (Within.set (OnlyB.refl _ _) (by simp) _) (by simp) _) (by simp) _
      have WT : OnlyB (fun k => (lo ≤ k ∧ k < m) ∨ k = P) w (((w4.setCell ⟨w.heap.size, 0, none⟩ (.int .i64 fl.f)).setCell ⟨w.heap.size, 1, none⟩ (.int .i64 fl.t)).setCell ⟨w.heap.size, 2, none⟩ (.int .i64 fl.w)) :=
        OnlyB.setNew (OnlyB.setNew (OnlyB.setNew ((OnlyB.below (OnlyB.refl _ _) HW.out).trans HW4.out) (by simp) _) (by simp) _) (by simp) _
      have HBF := HB4.out.within WS (.inl hlt)
      generalize ((w4.setCell ⟨w.heap.size, 0, none⟩ (.int .i64 fl.f)).setCell ⟨w.heap.size, 1, none⟩ (.int .i64 fl.t)).setCell ⟨w.heap.size, 2, none⟩ (.int .i64 fl.w) = w5 at *
      refine ⟨fl, true, rfl, by rw [HNX.out]; exact HHL.out, ?_, WT.mono (fun k hk => by omega)⟩
      rw [HNX.out]
      exact ⟨m, P, vl, f4, b4, vr, fr, false, h1, h2, h3, rfl, HBF, HH4.out, HHR.out, HS4.out.within WS (.inl (by omega)), HSR.out.keep (fun k a b c => WT.block k c (by omega))⟩
    | true =>
      have CL := Lib.hid (fun W => implLess fr fl W)
      have HGO : Hid (goR hl hr = lessR fr fl) := Lib.hid (by rw [HHL.out.yes, HHR.out.yes]; rfl)
      refine wp_region_still_tail 23 (by kernel_rfl) (by kernel_rfl) ?_
      simp only [List.take_succ_cons, List.take_zero, List.drop_succ_cons, List.drop_zero]
      change wpStill _ _ (World.drew _) _ _ _
      repeat still_step
      refine wpStill_nil ?_
      change wpList _ _ _ _ _ (World.drew _)
      have HW := Lib.hid HW.out.drew
      have HRES := Lib.hid HRES.out.drew
      clear x1 x2 x3 x4 x6 x7 x8 x9
      generalize World.drew w1 = w1 at *
      cases hlr : lessR fr fl with
      | true =>
        have HNX := Lib.hid (next_right (l := l) (r := r) (hl := hl) (hr := hr) (by rw [HGO.out, hlr]))
        rw [hlr] at CL
        clear hlr
        go_wp2_with fail
        refine (CL.out _).mono ?_
        rintro e w2 ⟨rfl, hb2⟩
        have HW := Lib.hid (g_chain HW.out hb2)
        have HRES := Lib.hid (HRES.out.below hb2)
        clear hb2
        go_upto_region 4 with fail
        obtain ⟨x1, x2, x3, x4, x6, x7, x8, x9⟩ := (HB.out.below HW.out).pairAt
        have hP2 : P < w2.heap.size := (HB.out.below HW.out).lt
        go_region
        have hq : w.heap.size < w2.heap.size := HRES.out.lt
        have HW := Lib.hid ((g_chain HW.out (below_a1 w2 (.cells #[.int .i64 fr.f, .int .i64 fr.t, .int .i64 fr.w] 68))).drew)
        have HRB := Lib.hid (Blk.new w2 #[.int .i64 fr.f, .int .i64 fr.t, .int .i64 fr.w] 68).drew
        have HRES := Lib.hid (HRES.out.alloc (.cells #[.int .i64 fr.f, .int .i64 fr.t, .int .i64 fr.w] 68)).drew
        clear x1 x2 x3 x4 x6 x7 x8 x9
        generalize (w2.alloc (.cells #[.int .i64 fr.f, .int .i64 fr.t, .int .i64 fr.w] 68)).drew = w3 at *
        generalize w2.heap.size = q3 at *
        have HBB := Lib.hid (g_chain_to HBL.out HW.out HSZ.out)
        have CD := Lib.hid (drawSide w0 w3 P 5 m P r vr (pairC vl fl true vr fr true) (Nat.le_refl _) (HB.out.below HW.out) (by simp [pairC]) rfl h2 (HIR.out w3 (HSR.out.keep (fun k _ _ hk => HW.out.block k hk)) HBB.out))
        go_wp2_with fail
        refine CD.out.mono ?_
        rintro e w4 ⟨rfl, f4, b4, hh4, hs4, hb4, hw4⟩
        have HW4 := Lib.hid hw4
        have RB4 := HRB.out.keep (HW4.out.block q3 HRB.out.lt (by omega))
        have RS4 := HRES.out.keep (HW4.out.block w.heap.size HRES.out.lt (by omega))
        have HB4 := Lib.hid hb4
        have HS4 := Lib.hid hs4
        have HH4 := Lib.hid hh4
        have r0 : w4.cell? ⟨q3, 0, none⟩ = some (.int .i64 fr.f) := RB4.cell rfl
        have r1 : w4.cell? ⟨q3, 1, none⟩ = some (.int .i64 fr.t) := RB4.cell rfl
        have r2 : w4.cell? ⟨q3, 2, none⟩ = some (.int .i64 fr.w) := RB4.cell rfl
        have s0 : w4.cell? ⟨w.heap.size, 0, none⟩ = some (.int .i64 0) := RS4.cell rfl
        have s1 : w4.cell? ⟨w.heap.size, 1, none⟩ = some (.int .i64 0) := RS4.cell rfl
        have s2 : w4.cell? ⟨w.heap.size, 2, none⟩ = some (.int .i64 0) := RS4.cell rfl
        have u0 := RS4.frozen 0
        have u1 := RS4.frozen 1
        have u2 := RS4.frozen 2
        clear hh4 hs4 hb4 hw4 RB4 RS4 CD
        go_wp2
        refine bodyPost_ret (v := .tuple #[.agg #[.int .i64 fr.f, .int .i64 fr.t, .int .i64 fr.w], .bool true]) (by simp [results, Tryd.results181, go_sem, s0, s1, s2]) rfl ?_
        have WS : Within w.heap.size (w.heap.size + 1) w4 (((w4.setCell ⟨w.heap.size, 0, none⟩ (.int .i64 fr.f)).setCell ⟨w.heap.size, 1, none⟩ (.int .i64 fr.t)).setCell ⟨w.heap.size, 2, none⟩ (.int .i64 fr.w)) :=
          Within.set (Within.set (Within.set (OnlyB.refl _ _) (by simp) _) (by simp) _) (by simp) _
        have WT : OnlyB (fun k => (m ≤ k ∧ k < P) ∨ k = P) w (((w4.setCell ⟨w.heap.size, 0, none⟩ (.int .i64 fr.f)).setCell ⟨w.heap.size, 1, none⟩ (.int .i64 fr.t)).setCell ⟨w.heap.size, 2, none⟩ (.int .i64 fr.w)) :=
          OnlyB.setNew (OnlyB.setNew (OnlyB.setNew ((OnlyB.below (OnlyB.refl _ _) HW.out).trans HW4.out) (by simp) _) (by simp) _) (by simp) _
        have HBF := HB4.out.within WS (.inl hlt)
        generalize ((w4.setCell ⟨w.heap.size, 0, none⟩ (.int .i64 fr.f)).setCell ⟨w.heap.size, 1, none⟩ (.int .i64 fr.t)).setCell ⟨w.heap.size, 2, none⟩ (.int .i64 fr.w) = w5 at *
        refine ⟨fr, true, rfl, by rw [HNX.out]; exact HHR.out, ?_, WT.mono (fun k hk => by omega)⟩
        rw [HNX.out]
        exact ⟨m, P, vl, fl, true, vr, f4, b4, h1, h2, h3, rfl, HBF, HHL.out, HH4.out, HSL.out.keep (fun k a b c => WT.block k c (by omega)), HS4.out.within WS (.inl (by omega))⟩
      | false =>
        have HNX := Lib.hid (next_left (l := l) (r := r) (hl := hl) (hr := hr) (by rw [HGO.out, hlr]))
        rw [hlr] at CL
        clear hlr
        go_wp2_with fail
        refine (CL.out _).mono ?_
        rintro e w2 ⟨rfl, hb2⟩
        have HW := Lib.hid (g_chain HW.out hb2)
        have HRES := Lib.hid (HRES.out.below hb2)
        clear hb2
        go_upto_region 4 with fail
        obtain ⟨x1, x2, x3, x4, x6, x7, x8, x9⟩ := (HB.out.below HW.out).pairAt
        have hP2 : P < w2.heap.size := (HB.out.below HW.out).lt
        go_region
        have hq : w.heap.size < w2.heap.size := HRES.out.lt
        have HW := Lib.hid ((g_chain HW.out (below_a1 w2 (.cells #[.int .i64 fl.f, .int .i64 fl.t, .int .i64 fl.w] 68))).drew)
        have HRB := Lib.hid (Blk.new w2 #[.int .i64 fl.f, .int .i64 fl.t, .int .i64 fl.w] 68).drew
        have HRES := Lib.hid (HRES.out.alloc (.cells #[.int .i64 fl.f, .int .i64 fl.t, .int .i64 fl.w] 68)).drew
        clear x1 x2 x3 x4 x6 x7 x8 x9
        generalize (w2.alloc (.cells #[.int .i64 fl.f, .int .i64 fl.t, .int .i64 fl.w] 68)).drew = w3 at *
        generalize w2.heap.size = q3 at *
        have HBB := Lib.hid (g_chain_to HBL.out HW.out HSZ.out)
        have CD := Lib.hid (drawSide w0 w3 P 0 lo m l vl (pairC vl fl true vr fr true) h2 (HB.out.below HW.out) (by simp [pairC]) rfl (by omega) (HIL.out w3 (HSL.out.keep (fun k _ _ hk => HW.out.block k hk)) HBB.out))
        go_wp2_with fail
        refine CD.out.mono ?_
        rintro e w4 ⟨rfl, f4, b4, hh4, hs4, hb4, hw4⟩
        have HW4 := Lib.hid hw4
        have RB4 := HRB.out.keep (HW4.out.block q3 HRB.out.lt (by omega))
        have RS4 := HRES.out.keep (HW4.out.block w.heap.size HRES.out.lt (by omega))
        have HB4 := Lib.hid hb4
        have HS4 := Lib.hid hs4
        have HH4 := Lib.hid hh4
        have r0 : w4.cell? ⟨q3, 0, none⟩ = some (.int .i64 fl.f) := RB4.cell rfl
        have r1 : w4.cell? ⟨q3, 1, none⟩ = some (.int .i64 fl.t) := RB4.cell rfl
        have r2 : w4.cell? ⟨q3, 2, none⟩ = some (.int .i64 fl.w) := RB4.cell rfl
        have s0 : w4.cell? ⟨w.heap.size, 0, none⟩ = some (.int .i64 0) := RS4.cell rfl
        have s1 : w4.cell? ⟨w.heap.size, 1, none⟩ = some (.int .i64 0) := RS4.cell rfl
        have s2 : w4.cell? ⟨w.heap.size, 2, none⟩ = some (.int .i64 0) := RS4.cell rfl
        have u0 := RS4.frozen 0
        have u1 := RS4.frozen 1
        have u2 := RS4.frozen 2
        clear hh4 hs4 hb4 hw4 RB4 RS4 CD
        go_wp2
        refine bodyPost_ret (v := .tuple #[.agg #[.int .i64 fl.f, .int .i64 fl.t, .int .i64 fl.w], .bool true]) (by simp [results, Tryd.results181, go_sem, s0, s1, s2]) rfl ?_
        have WS : Within w.heap.size (w.heap.size + 1) w4 (((w4.setCell ⟨w.heap.size, 0, none⟩ (.int .i64 fl.f)).setCell ⟨w.heap.size, 1, none⟩ (.int .i64 fl.t)).setCell ⟨w.heap.size, 2, none⟩ (.int .i64 fl.w)) :=
          Within.set (Within.set (Within.set (OnlyB.refl _ _) (by simp) _) (by simp) _) (by simp) _
        have WT : OnlyB (fun k => (lo ≤ k ∧ k < m) ∨ k = P) w (((w4.setCell ⟨w.heap.size, 0, none⟩ (.int .i64 fl.f)).setCell ⟨w.heap.size, 1, none⟩ (.int .i64 fl.t)).setCell ⟨w.heap.size, 2, none⟩ (.int .i64 fl.w)) :=
          OnlyB.setNew (OnlyB.setNew (OnlyB.setNew ((OnlyB.below (OnlyB.refl _ _) HW.out).trans HW4.out) (by simp) _) (by simp) _) (by simp) _
        have HBF := HB4.out.within WS (.inl hlt)
        generalize ((w4.setCell ⟨w.heap.size, 0, none⟩ (.int .i64 fl.f)).setCell ⟨w.heap.size, 1, none⟩ (.int .i64 fl.t)).setCell ⟨w.heap.size, 2, none⟩ (.int .i64 fl.w) = w5 at *
        refine ⟨fl, true, rfl, by rw [HNX.out]; exact HHL.out, ?_, WT.mono (fun k hk => by omega)⟩
        rw [HNX.out]
        exact ⟨m, P, vl, f4, b4, vr, fr, true, h1, h2, h3, rfl, HBF, HH4.out, HHR.out, HS4.out.within WS (.inl (by omega)), HSR.out.keep (fun k a b c => WT.block k c (by omega))⟩

theorem srcNext (w0 : World) : ∀ (t : Tr) (lo hi : Nat) (v : Value) (w : World), Src w0 w t lo hi v → Below w0.heap.size w0 w → NextAt w0 t lo hi v w
  | .leaf es, lo, hi, v, w, h, hB => by
    obtain ⟨L, A, n, c, h1, h2, rfl, hb, hs, hc⟩ := h
    exact ⟨_, _, _, rfl, .inl ⟨rfl, rfl⟩, listNext w0 w lo hi L A n c es h1 h2 hb hs hc hB⟩
  | .pair l hl r hr, lo, hi, v, w, h, hB => by
    obtain ⟨m, P, vl, fl, bl, vr, fr, br, h1, h2, h3, rfl, hb, hhl, hhr, hsl, hsr⟩ := h
    exact ⟨_, _, _, rfl, .inr ⟨rfl, rfl⟩, pairNext w0 w lo hi m P l r hl hr vl vr fl fr bl br h1 h2 h3 hb hhl hhr hsl hsr hB (fun w' h hb => srcNext w0 l lo m vl w' h hb) (fun w' h hb => srcNext w0 r m P vr w' h hb)⟩
end Go.Proofs.YtmbabbapcjphgaaDoor
namespace Go.Proofs.YtmbabbapcjphgaaDoor
open Go.RowKit

theorem Src.form {w0 w : World} : ∀ {t : Tr} {lo hi : Nat} {v : Value}, Src w0 w t lo hi v → ∃ ty a, v = .iface ty (.pointer (some a))
  | .leaf _, _, _, _, h => by
    obtain ⟨L, _, _, _, _, _, h3, _⟩ := h
    exact ⟨_, _, h3⟩
  | .pair _ _ _ _, _, _, _, h => by
    obtain ⟨m, P, _, _, _, _, _, _, _, _, _, h3, _⟩ := h
    exact ⟨_, _, h3⟩
theorem OnlyB.new {S T : Nat → Prop} {w w' : World} (h : OnlyB S w w') (hs : ∀ k, k < w.heap.size → S k → T k) : OnlyB T w w' :=
  ⟨h.os, h.tape, h.output, h.size, fun k hk hn => h.block k hk (fun e => hn (hs k hk e))⟩
def PairMade (w0 w : World) (l r : Tr) (lo hi : Nat) (e : Ending) (w' : World) : Prop :=
  e = .returned (.pointer (some ⟨w.heap.size, 0, none⟩)) ∧ Src w0 w' (.pair l.next.2 l.next.1 r.next.2 r.next.1) lo w'.heap.size (.iface 171 (.pointer (some ⟨w.heap.size, 0, none⟩))) ∧ Within lo hi w w'
set_option maxRecDepth 10000 in
set_option maxHeartbeats 1000000 in
theorem newPair (w0 w : World) (l r : Tr) (lo m hi : Nat) (vl vr : Value) (hsl : Src w0 w l lo m vl) (hsr : Src w0 w r m hi vr) (hhi : hi ≤ w.heap.size) (hlo : w0.heap.size ≤ lo) (hB : Below w0.heap.size w0 w) :
    Calls Tryd.prog 85 #[vl, vr] w (PairMade w0 w l r lo hi) := by
  obtain ⟨tl, al, rfl⟩ := hsl.form
  obtain ⟨tr, ar, rfl⟩ := hsr.form
  have hl := hsl.lt
  have hr := hsr.lt
  have hb1 := Blk.new w (pairC (.iface tl (.pointer (some al))) zeroG false (.iface tr (.pointer (some ar))) zeroG false) 181
  have HW1 := Lib.hid (below_a1 w (.cells (pairC (.iface tl (.pointer (some al))) zeroG false (.iface tr (.pointer (some ar))) zeroG false) 181))
  have HSL := Lib.hid hsl
  have HSR := Lib.hid hsr
  have HB := Lib.hid hB
  have HSZ := hB.size
  clear hsl hsr hB
  have CD1 := Lib.hid (drawSide w0 _ w.heap.size 0 lo m l (.iface tl (.pointer (some al))) _ (by omega) hb1 (by simp [pairC]) rfl (by omega) (srcNext w0 l lo m _ _ (HSL.out.keep (fun k _ _ hk => HW1.out.block k hk)) (g_chain HB.out HW1.out)))
  clear hb1
  go_enter Tryd.func85, Tryd.ntmps85
  go_wp2_with fail
  refine CD1.out.mono ?_
  rintro e w2 ⟨rfl, f1, b1, hh1, hs1, hb1, hw1⟩
  rw [side_left] at hb1
  have HO2 := Lib.hid ((OnlyB.below (OnlyB.refl (fun k => (lo ≤ k ∧ k < m) ∨ k = w.heap.size) w) HW1.out).trans hw1)
  have HH1 := Lib.hid hh1
  have HS1 := Lib.hid hs1
  have HBB2 := Lib.hid (HB.out.trans (HO2.out.toBelow HSZ (fun k hk => by omega)))
  have CD2 := Lib.hid (drawSide w0 w2 w.heap.size 5 m hi r (.iface tr (.pointer (some ar))) _ hhi hb1 (by simp [pairC]) rfl (by omega) (srcNext w0 r m hi _ w2 (HSR.out.keep (fun k _ _ hk => HO2.out.block k hk (by omega))) HBB2.out))
  clear hh1 hs1 hb1 hw1 CD1
  go_wp2_with fail
  refine CD2.out.mono ?_
  rintro e w3 ⟨rfl, f2, b2, hh2, hs2, hb2, hw2⟩
  rw [side_right] at hb2
  have HO3 := Lib.hid hw2
  have HH2 := Lib.hid hh2
  have HS2 := Lib.hid hs2
  have HB3 := Lib.hid hb2
  clear hh2 hs2 hb2 hw2 CD2
  go_wp2
  go_ret
  have hS1 : Src w0 w3 l.next.2 lo m (.iface tl (.pointer (some al))) := HS1.out.keep (fun k _ _ hk => HO3.out.block k hk (by omega))
  refine ⟨rfl, ⟨m, w.heap.size, _, f1, b1, _, f2, b2, by omega, by omega, HB3.out.lt, rfl, HB3.out, HH1.out, HH2.out, hS1, HS2.out.wide (Nat.le_refl _) hhi⟩, ?_⟩
  exact OnlyB.new ((HO2.out.mono (T := fun k => (lo ≤ k ∧ k < hi) ∨ k = w.heap.size) (fun k hk => by omega)).trans (HO3.out.mono (fun k hk => by omega))) (fun k hk e => by omega)

/-! ### the tree over batches -/
theorem batsElem : Tryd.prog.underlying 111 = some (.slice (Tryd.prog.elem 111)) := by simp [Program.elem, Tryd.underlying111]
theorem batsElem' : Tryd.prog.elem 111 = 146 := by simp [Program.elem, Tryd.underlying111]
theorem batsSize (w : World) : (Go.sizeOf 146).run Tryd.prog w = .ok 1 w := by kernel_rfl
theorem bats_len (bs : List BE) : (bs.flatMap BE.cells).length = bs.length := by rw [flat_len BE.cells 1 BE.cells_len, Nat.mul_one]
theorem bats_most {P : Option Addr} {n c k : Nat} {bs : List BE} {w : World} (hr : SlT w P n bs) (h0 : 0 < n) (hk : k ≤ n) (hc : n ≤ c) :
    (∀ W, (Instr.slice 111 (.slice P n c) none (some (.int .i64 (k : Int))) none).run Tryd.prog W = .ok (.slice P k c) W) ∧ SlT w P k (bs.take k) := by
  obtain ⟨b, off, rfl, hb, hcell⟩ := hr.row.lies h0
  have hl := hr.len
  refine ⟨fun W => ?_, ?_, ?_, fun e he => hr.each e (List.mem_of_mem_take he)⟩
  · rw [run_slice_h W _ _ _ _ batsElem .i64 (k : Int) (by omega) (by omega), batsElem', batsSize, Int.toNat_natCast]
    simp [sliced, rec_add]
  · rw [List.length_take]; omega
  · refine ⟨by rw [bats_len, List.length_take]; omega, fun _ => ⟨b, off, rfl, hb, fun j u hu => hcell j u ?_⟩⟩
    have h1 := List.flatMap_append (f := BE.cells) (xs := bs.take k) (ys := bs.drop k)
    rw [List.take_append_drop] at h1
    rw [h1, List.getElem?_append_left (List.getElem?_eq_some_iff.1 hu).1]
    exact hu
theorem bats_from {P : Option Addr} {n c k : Nat} {bs : List BE} {w : World} (hr : SlT w P n bs) (hk : k ≤ n) (hc : n ≤ c) :
    ∃ P', (∀ W, (Instr.slice 111 (.slice P n c) (some (.int .i64 (k : Int))) none none).run Tryd.prog W = .ok (.slice P' (n - k) (c - k)) W) ∧ SlT w P' (n - k) (bs.drop k) := by
  have hl := hr.len
  refine ⟨if c = k then P else P.map (·.add (k * 1)), fun W => ?_, ?_, ?_, fun e he => hr.each e (List.mem_of_mem_drop he)⟩
  · rw [run_slice_l W _ _ _ _ batsElem .i64 (k : Int) (by omega) (by omega), batsElem', batsSize, Int.toNat_natCast]
    rfl
  · rw [List.length_drop, hl]
  · refine ⟨by rw [bats_len, List.length_drop, hl, Nat.mul_one], fun hn => ?_⟩
    obtain ⟨b, off, rfl, hb, hcell⟩ := hr.row.lies (by omega)
    rw [if_neg (by omega)]
    refine ⟨b, off + k * 1, by simp [rec_add], hb, fun j u hu => ?_⟩
    have e := hcell (k * 1 + j) u
    rw [Nat.add_assoc]
    apply e
    have h1 := List.flatMap_append (f := BE.cells) (xs := bs.take k) (ys := bs.drop k)
    rw [List.take_append_drop] at h1
    rw [h1, List.getElem?_append_right (by rw [bats_len, List.length_take]; omega), bats_len, List.length_take, Nat.min_eq_left (by omega), Nat.mul_one, Nat.add_sub_cancel_left]
    exact hu
/-- What the tree over batches stands for. -/
def normR (bs : List BE) : List (List GE) := if bs.length = 0 then [[]] else bs.map BE.es
theorem normR_pos {bs : List BE} (h : 0 < bs.length) : normR bs = bs.map BE.es := if_neg (by omega)
def SrcMade (w0 w : World) (rs : List (List GE)) (e : Ending) (w' : World) : Prop :=
  ∃ (t : Tr) (v : Value), e = .returned v ∧ Rep t rs ∧ Src w0 w' t w.heap.size w'.heap.size v ∧ Below w.heap.size w w'

theorem rep_one (es : List GE) : Rep (.leaf es) [es] := rfl
set_option maxRecDepth 10000 in
set_option maxHeartbeats 1000000 in
theorem source0 (w0 : World) (A : Option Addr) (c : Nat) (bs : List BE) (w : World) (hr : SlT w0 A 0 bs) :
    Calls Tryd.prog 72 #[.slice A 0 c] w (SrcMade w0 w (normR bs)) := by
  have HN : Hid (normR bs = [[]]) := Lib.hid (if_pos hr.len)
  go_enter Tryd.func72, Tryd.ntmps72
  go_wp2
  go_ret
  exact ⟨.leaf [], _, rfl, by rw [HN.out]; exact rep_one [], ⟨w.heap.size, none, 0, 0, Nat.le_refl _, by simp, rfl, Blk.new _ _ _, SlG.nil, Nat.le_refl _⟩, below_a1 _ _⟩
set_option maxRecDepth 10000 in
set_option maxHeartbeats 1000000 in
theorem source1 (w0 : World) (A : Option Addr) (c : Nat) (bs : List BE) (w : World) (hr : SlT w0 A 1 bs) (_hc : 1 ≤ c) (hB : Below w0.heap.size w0 w) :
    Calls Tryd.prog 72 #[.slice A 1 c] w (SrcMade w0 w (normR bs)) := by
  obtain ⟨b, off, e, rfl, hbw, he, hok, c0⟩ := hr.at_ (j := 0) (by omega)
  have c0 := (hB.cell (p := ⟨b, off + 0, none⟩) hbw).trans c0
  rw [Nat.add_zero] at c0
  have HN : Hid (normR bs = [e.es]) := Lib.hid (by
    have hl := hr.len
    have h := he.out
    rw [normR_pos (by omega)]
    match bs, hl, h with
    | [x], _, h => simp at h; rw [h]; rfl)
  clear hr he hB
  go_enter Tryd.func72, Tryd.ntmps72
  go_wp2
  go_ret
  exact ⟨.leaf e.es, _, rfl, by rw [HN.out]; exact rep_one _, ⟨w.heap.size, e.A, e.n, e.c, Nat.le_refl _, by simp, rfl, Blk.new _ _ _, hok.out.rd, hok.out.cap⟩, below_a1 _ _⟩

set_option maxRecDepth 10000 in
set_option maxHeartbeats 2000000 in
theorem sourceOf (w0 : World) : ∀ (q : Nat) (A : Option Addr) (n c : Nat) (bs : List BE) (w : World), n ≤ q → SlT w0 A n bs → n ≤ c → n ≤ 1048576 → Below w0.heap.size w0 w →
    Calls Tryd.prog 72 #[.slice A n c] w (SrcMade w0 w (normR bs)) := by
  intro q
  induction q with
  | zero =>
    intro A n c bs w hq hr hc hn hB
    obtain rfl : n = 0 := by omega
    exact source0 w0 A c bs w hr
  | succ q ih =>
    intro A n c bs w hq hr hc hn hB
    by_cases h0 : n = 0
    · subst h0
      exact source0 w0 A c bs w hr
    by_cases h1 : n = 1
    · subst h1
      exact source1 w0 A c bs w hr hc hB
    obtain ⟨k, hk⟩ : ∃ k, n / 2 = k := ⟨_, rfl⟩
    have hk0 : 1 ≤ k := by omega
    have hkn : k + 1 ≤ n := by omega
    have hki : (n : Int).tdiv 2 = (k : Int) := by rw [← hk]; rfl
    have hkd : (n : Int) / 2 = (k : Int) := by rw [← hk]; rfl
    obtain ⟨hrun1, hs1⟩ := bats_most (k := k) hr (by omega) (by omega) hc
    obtain ⟨P2, hrun2, hs2⟩ := bats_from (k := k) hr (by omega) hc
    have hz0 : ((n : Int) == 0) = false := by simp; omega
    have hz1 : ((n : Int) == 1) = false := by simp; omega
    have hl := hr.len
    have HN1 : Hid (normR (bs.take k) = (bs.take k).map BE.es) := Lib.hid (normR_pos (by rw [List.length_take]; omega))
    have HN2 : Hid (normR (bs.drop k) = (bs.drop k).map BE.es) := Lib.hid (normR_pos (by rw [List.length_drop]; omega))
    have HN : Hid (normR bs = (bs.take k).map BE.es ++ (bs.drop k).map BE.es) := Lib.hid (by rw [normR_pos (by omega), ← List.map_append, List.take_append_drop])
    have C1 := Lib.hid (fun W (h : Below w0.heap.size w0 W) => ih A k c (bs.take k) W (by omega) hs1 (by omega) (by omega) h)
    have C2 := Lib.hid (fun W (h : Below w0.heap.size w0 W) => ih P2 (n - k) (c - k) (bs.drop k) W (by omega) hs2 (by omega) (by omega) h)
    rw [HN1.out] at C1
    rw [HN2.out] at C2
    have HB := Lib.hid hB
    clear ih hr hs1 hs2 hB hk hl
    go_enter Tryd.func72, Tryd.ntmps72
    go_upto_region 7 with fail
    have HLO := Lib.hid HB.out.size
    have HBD : Hid (Below w0.heap.size w0 w.drew) := Lib.hid HB.out.drew
    go_region_law (go_simp; first
      | (go_at_call 85; (with_reducible refine (newPair w0 w2 t1 t2 w.heap.size w1.heap.size w2.heap.size v1 v2 HS12.out HS2.out (Nat.le_refl _) HLO.out HB2.out).mono ?_); rintro e w3 ⟨rfl, hs3, hw3⟩; have HS3 := Lib.hid hs3; have HW3 := Lib.hid hw3; clear hs3 hw3)
      | (go_at_call 72; first
        | (have hx := HB1; (with_reducible refine (C2.out _ HB1.out).mono ?_); rintro e w2 ⟨t2, v2, rfl, hrep2, hsrc2, hb2⟩; have HR2 := Lib.hid hrep2; have HS2 := Lib.hid hsrc2; have HW2 := Lib.hid hb2; have HS12 := Lib.hid (HS1.out.keep (fun k _ _ hk => HW2.out.block k hk)); have HB2 := Lib.hid (g_chain HB1.out HW2.out); clear hrep2 hsrc2 hb2)
        | ((with_reducible refine (C1.out _ HBD.out).mono ?_); rintro e w1 ⟨t1, v1, rfl, hrep1, hsrc1, hb1⟩; have HR1 := Lib.hid hrep1; have HS1 : Hid (Src w0 w1 t1 w.heap.size w1.heap.size v1) := Lib.hid hsrc1; have HW1 : Hid (Below w.heap.size w w1) := Lib.hid (by first | exact hb1 | exact ⟨hb1.os, hb1.tape, hb1.output, hb1.size, hb1.block⟩); have HB1 := Lib.hid (g_chain HB.out HW1.out); clear hrep1 hsrc1 hb1)))
    go_wp2
    go_ret
    exact ⟨_, _, rfl, by rw [HN.out]; exact pair_rep HR1.out HR2.out, HS3.out, (g_chain HW1.out HW2.out).trans (HW3.out.below (Nat.le_trans HW1.out.size HW2.out.size) (Nat.le_refl _))⟩

/-! ### Merge -/
theorem merge_norm (bs : List BE) : mergeAll (normR bs) = mergeAll (bs.map BE.es) := by
  by_cases h : bs.length = 0
  · obtain rfl := List.eq_nil_of_length_eq_zero h
    rfl
  · rw [normR_pos (by omega)]
theorem next_list {w0 w : World} {t : Tr} {lo hi : Nat} {a : Option Addr} (h : NextAt w0 t lo hi (.iface 168 (.pointer a)) w) : Calls Tryd.prog 180 #[.pointer a] w (NextIs w0 t lo hi (.iface 168 (.pointer a)) w) := by
  obtain ⟨ty, f, a', e, hty, hC⟩ := h
  injection e with e1 e2
  injection e2 with e2
  subst e1 e2
  rcases hty with ⟨_, rfl⟩ | ⟨h, _⟩
  · exact hC
  · exact absurd h (by decide)
theorem next_pair {w0 w : World} {t : Tr} {lo hi : Nat} {a : Option Addr} (h : NextAt w0 t lo hi (.iface 171 (.pointer a)) w) : Calls Tryd.prog 181 #[.pointer a] w (NextIs w0 t lo hi (.iface 171 (.pointer a)) w) := by
  obtain ⟨ty, f, a', e, hty, hC⟩ := h
  injection e with e1 e2
  injection e2 with e2
  subst e1 e2
  rcases hty with ⟨h, _⟩ | ⟨_, rfl⟩
  · exact absurd h (by decide)
  · exact hC
def sliceLen : Value → Nat
  | .slice _ n _ => n
  | _ => 0
/-- What stands between two rounds of Merge. -/
structure MSt (w wr : World) (hi : Nat) (v0 : Value) (rs0 : List (List GE)) (P : Option Addr) (k c1 q : Nat) (x : GE) (bb : Bool) (t : Tr) (pre : List GE) : Prop where
  row : wr.ownsRow hi 68 3 (.slice P k c1) k (pre.flatMap GE.cells)
  len : pre.length = k
  far : ∀ g, (Value.slice P k c1).ownBlock = some g → g < q
  box : Blk wr q #[.int .i64 x.f, .int .i64 x.t, .int .i64 x.w] 68
  src : Src w wr t w.heap.size hi v0
  lo : hi ≤ q
  bel : Below w.heap.size w wr
  hd : ∃ h rs, HdIs h x bb ∧ Drawn (Rep t) h rs ∧ pre ++ mergeAll rs = mergeAll rs0
set_option maxRecDepth 10000 in
set_option maxHeartbeats 4000000 in
theorem implMerge (A : Option Addr) (n c : Nat) (bs : List BE) (w : World) (hr : SlT w A n bs) (hc : n ≤ c) (hn : n ≤ 1048576) (ht : totalR (bs.map BE.es) ≤ 1048576) :
    Calls Tryd.prog 55 #[.slice A n c] w (MadeRc w (mergeAll (bs.map BE.es))) := by
  obtain ⟨i0, hi0, hz0, hz1, hz2⟩ := info_parts Tryd.infoRec
  rw [← merge_norm]
  have HT : Hid ((mergeAll (normR bs)).length ≤ 1048576) := Lib.hid (by rw [merge_norm, mergeAll_len]; exact ht)
  have CS := Lib.hid (sourceOf w n A n c bs w (Nat.le_refl _) hr hc hn (Below.refl _ _))
  generalize normR bs = rs0 at *
  clear hr ht
  go_enter Tryd.func55, Tryd.ntmps55
  go_wp2_with fail
  refine CS.out.mono ?_
  rintro e w1 ⟨t, v, rfl, hrep, hsrc, hb1⟩
  obtain ⟨ty, f, a, rfl, hty, -⟩ := srcNext w t w.heap.size w1.heap.size v w1 hsrc hb1
  have HREP := Lib.hid hrep
  have HSRC := Lib.hid hsrc
  have HB1 := Lib.hid hb1
  have hsz := hb1.size
  clear hrep hsrc hb1 CS
  rcases hty with ⟨rfl, rfl⟩ | ⟨rfl, rfl⟩
  · have CN := Lib.hid (fun W t' (h : Src w W t' w.heap.size w1.heap.size (.iface 168 (.pointer a))) (hb : Below w.heap.size w W) => next_list (srcNext w t' w.heap.size w1.heap.size _ W h hb))
    go_wp2_with fail
    refine (CN.out _ _ HSRC.out HB1.out).mono ?_
    rintro e w2 ⟨x, bb, rfl, hh, hsrc, hw⟩
    have HM : Hid (MSt w (w2.alloc (.cells #[.int .i64 x.f, .int .i64 x.t, .int .i64 x.w] 68)) w1.heap.size (.iface 168 (.pointer a)) rs0 none 0 0 w2.heap.size x bb t.next.2 []) :=
      Lib.hid ⟨World.ownsRow_nil _ _ _ _, rfl, by simp [Value.ownBlock], Blk.new _ _ _, hsrc.keep (fun k _ hk hk2 => (below_a1 w2 _).block k hk2), hw.size, (HB1.out.trans (hw.below hsz (Nat.le_refl _))).alloc (Nat.le_trans hsz hw.size) _, _, _, hh, next_drawn t _ HREP.out, rfl⟩
    obtain ⟨hi, hhi⟩ : ∃ hi, w1.heap.size = hi := ⟨_, rfl⟩
    rw [hhi] at CN HM hsz
    clear hh hsrc hw HREP HSRC HB1 hhi
    go_wp2
    go_loopw [3, 5, 6] (fun v p b wr => ∃ (P : Option Addr) (k c1 q : Nat) (x : GE) (bb : Bool) (t : Tr) (pre : List GE), v = .slice P k c1 ∧ p = .pointer (some ⟨q, 0, none⟩) ∧ b = .bool bb ∧ Hid (MSt w wr hi (.iface 168 (.pointer a)) rs0 P k c1 q x bb t pre)) (fun v _ _ _ => 1048576 - sliceLen v)
    case atStart => exact ⟨_, _, _, _, x, bb, _, _, rfl, rfl, rfl, HM⟩
    case round =>
      clear HM
      obtain ⟨P, k, c1, q, x, bb, t, pre, rfl, rfl, rfl, hM⟩ := hrel
      obtain ⟨h, rs, hh, hdr, hall⟩ := hM.out.hd
      cases bb with
      | false =>
        obtain rfl := hh.no
        have hbn : bestR rs = none := by
          unfold Drawn at hdr
          cases hb : bestR rs with
          | none => rfl
          | some p => rw [hb] at hdr; exact absurd hdr.1 (by simp)
        have HV : Hid (pre = mergeAll rs0) := Lib.hid (by rw [← hall, merge_none hbn, List.append_nil])
        clear hh hdr hall hbn
        go_wp2
        go_ret
        obtain rfl := hM.out.len
        rw [← HV.out]
        exact ⟨_, _, rfl, own_monoG hM.out.row (by omega), hM.out.bel⟩
      | true =>
        obtain rfl := hh.yes
        obtain ⟨rs', hrep, HALL⟩ : ∃ rs', Rep t rs' ∧ Hid ((pre ++ [x]) ++ mergeAll rs' = mergeAll rs0) := by
          unfold Drawn at hdr
          cases hb : bestR rs with
          | none => rw [hb] at hdr; exact absurd hdr.1 (by simp)
          | some p =>
            obtain ⟨i, y⟩ := p
            rw [hb] at hdr
            obtain ⟨e1, e2⟩ := hdr
            injection e1 with e1
            subst e1
            exact ⟨_, e2, Lib.hid (by rw [← hall, merge_step hb, List.append_assoc]; rfl)⟩
        have hk : k + 1 ≤ 1048576 := by
          have h1 := congrArg List.length HALL.out
          have h2 := HT.out
          have h3 := hM.out.len
          simp only [List.length_append, List.length_cons, List.length_nil] at h1
          omega
        have HREP := Lib.hid hrep
        have HON2 := Lib.hid (rec_one [x])
        have x0 := hM.out.box.cell (i := 0) rfl
        have x1 := hM.out.box.cell (i := 1) rfl
        have x2 := hM.out.box.cell (i := 2) rfl
        have hqs := hM.out.box.lt
        have hws := hM.out.bel.size
        have hlo := hM.out.lo
        have x0 : wr.cell? ⟨q, 0, none⟩ = some (.int .i64 x.f) := x0
        have x1 : wr.cell? ⟨q, 1, none⟩ = some (.int .i64 x.t) := x1
        have x2 : wr.cell? ⟨q, 2, none⟩ = some (.int .i64 x.w) := x2
        clear hh hdr hall hrep
        go_wp2_with (at_builtin; refine wpList_append_any _ rfl (.tmp 20) (.tmp 22) _ rfl hi 68 i0 _ 3 24 Tryd.underlying65 hi0 hz0 hz1 hz2 rfl (by omega) (.slice P k c1) k (pre.flatMap GE.cells) rfl (hM.out.row.alloc _) (wr.heap.size + 1) (some ⟨wr.heap.size, 0, none⟩) 1 1 (GE.cells x) rfl (rec_reads _ x _ _ rfl) (by simpa using HON2.out) (by simp only [maxLen]; omega) (by omega) (by simp; omega) ?_; intro v3 w3 hown3 hg3 hat3; obtain ⟨P3, c3, rfl⟩ := rec_form hown3; have RB3 := (hM.out.box.alloc (.cells #[.int .i64 x.f, .int .i64 x.t, .int .i64 x.w] 68)).grown hg3 (fun e => by have := hM.out.far q e; omega); have y0 : w3.cell? ⟨q, 0, none⟩ = some (.int .i64 x.f) := RB3.cell rfl; have y1 : w3.cell? ⟨q, 1, none⟩ = some (.int .i64 x.t) := RB3.cell rfl; have y2 : w3.cell? ⟨q, 2, none⟩ = some (.int .i64 x.w) := RB3.cell rfl)
        have HB3 := Lib.hid ((hM.out.bel.alloc hws (.cells #[.int .i64 x.f, .int .i64 x.t, .int .i64 x.w] 68)).grown hg3 (by simp; omega) (fun j hj => by have := (hM.out.row.lt j hj).1; omega))
        have hs3 : q < w3.heap.size := RB3.lt
        have HS3 := Lib.hid (hM.out.src.keep (w' := w3) (fun j _ hj hjw => (hg3.block j (by simp; omega) (fun e => by have := (hM.out.row.lt j e.symm).1; omega)).trans ((below_a1 wr (.cells #[.int .i64 x.f, .int .i64 x.t, .int .i64 x.w] 68)).block j hjw)))
        have HO3 := Lib.hid hown3
        have HS4 := Lib.hid (HS3.out.keep (fun j _ _ hjw => (below_a1 w3 (.cells #[.int .i64 x.f, .int .i64 x.t, .int .i64 x.w] 68)).block j hjw))
        have hws3 : w.heap.size ≤ w3.heap.size := by omega
        have HB4 := Lib.hid (HB3.out.alloc hws3 (.cells #[.int .i64 x.f, .int .i64 x.t, .int .i64 x.w] 68))
        have HL := Lib.hid hM.out.len
        clear hM hown3 hg3 hat3 RB3 y0 y1 y2 x0 x1 x2
        refine (CN.out _ t HS4.out HB4.out).mono ?_
        rintro e w5 ⟨z, zb, rfl, hh5, hs5, hw5⟩
        have HH5 := Lib.hid hh5
        have HS5 := Lib.hid hs5
        have HW5 := Lib.hid hw5
        have RB5 := Lib.hid ((Blk.new w3 #[.int .i64 x.f, .int .i64 x.t, .int .i64 x.w] 68).within hw5 (.inr (by omega)))
        have HO5 := Lib.hid (hw5.own (HO3.out.alloc (.cells #[.int .i64 x.f, .int .i64 x.t, .int .i64 x.w] 68)) (fun g hg hs => by have := (HO3.out.lt g hg).1; omega))
        have s0 : w5.cell? ⟨w3.heap.size, 0, none⟩ = some (.int .i64 x.f) := RB5.out.cell rfl
        have s1 : w5.cell? ⟨w3.heap.size, 1, none⟩ = some (.int .i64 x.t) := RB5.out.cell rfl
        have s2 : w5.cell? ⟨w3.heap.size, 2, none⟩ = some (.int .i64 x.w) := RB5.out.cell rfl
        have v0 := RB5.out.frozen 0
        have v1 := RB5.out.frozen 1
        have v2 := RB5.out.frozen 2
        clear hh5 hs5 hw5 HS3 HS4
        go_wp2
        have WS : Within w3.heap.size (w3.heap.size + 1) w5 (((w5.setCell ⟨w3.heap.size, 0, none⟩ (.int .i64 z.f)).setCell ⟨w3.heap.size, 1, none⟩ (.int .i64 z.t)).setCell ⟨w3.heap.size, 2, none⟩ (.int .i64 z.w)) :=
          Within.set (Within.set (Within.set (OnlyB.refl _ _) (by simp) _) (by simp) _) (by simp) _
        have HBX := Lib.hid (((RB5.out.set 0 (.int .i64 z.f)).set 1 (.int .i64 z.t)).set 2 (.int .i64 z.w))
        have HWS := Lib.hid WS
        clear s0 s1 s2 v0 v1 v2 WS
        generalize ((w5.setCell ⟨w3.heap.size, 0, none⟩ (.int .i64 z.f)).setCell ⟨w3.heap.size, 1, none⟩ (.int .i64 z.t)).setCell ⟨w3.heap.size, 2, none⟩ (.int .i64 z.w) = w6 at *
        go_roundw
        case rel =>
          refine ⟨P3, k + 1, c3, w3.heap.size, z, zb, t.next.2, pre ++ [x], rfl, rfl, rfl, Lib.hid ⟨?_, by simp [HL.out], fun g hg => (HO3.out.lt g hg).2, HBX.out, HS5.out.within HWS.out (.inl (by omega)), by omega, ?_, _, rs', HH5.out, next_drawn t rs' HREP.out, HALL.out⟩⟩
          · rw [List.flatMap_append]
            exact HWS.out.own (by simpa using HO5.out) (fun g hg hs => by have := (HO3.out.lt g hg).2; omega)
          · exact (HB4.out.trans (HW5.out.below (by simp; omega) (Nat.le_refl _))).trans (HWS.out.below (by have := HW5.out.size; simp at this; omega) hws3)
        case measure => simp [sliceLen]; omega
  · have CN := Lib.hid (fun W t' (h : Src w W t' w.heap.size w1.heap.size (.iface 171 (.pointer a))) (hb : Below w.heap.size w W) => next_pair (srcNext w t' w.heap.size w1.heap.size _ W h hb))
    go_wp2_with fail
    refine (CN.out _ _ HSRC.out HB1.out).mono ?_
    rintro e w2 ⟨x, bb, rfl, hh, hsrc, hw⟩
    have HM : Hid (MSt w (w2.alloc (.cells #[.int .i64 x.f, .int .i64 x.t, .int .i64 x.w] 68)) w1.heap.size (.iface 171 (.pointer a)) rs0 none 0 0 w2.heap.size x bb t.next.2 []) :=
      Lib.hid ⟨World.ownsRow_nil _ _ _ _, rfl, by simp [Value.ownBlock], Blk.new _ _ _, hsrc.keep (fun k _ hk hk2 => (below_a1 w2 _).block k hk2), hw.size, (HB1.out.trans (hw.below hsz (Nat.le_refl _))).alloc (Nat.le_trans hsz hw.size) _, _, _, hh, next_drawn t _ HREP.out, rfl⟩
    obtain ⟨hi, hhi⟩ : ∃ hi, w1.heap.size = hi := ⟨_, rfl⟩
    rw [hhi] at CN HM hsz
    clear hh hsrc hw HREP HSRC HB1 hhi
    go_wp2
    go_loopw [3, 5, 6] (fun v p b wr => ∃ (P : Option Addr) (k c1 q : Nat) (x : GE) (bb : Bool) (t : Tr) (pre : List GE), v = .slice P k c1 ∧ p = .pointer (some ⟨q, 0, none⟩) ∧ b = .bool bb ∧ Hid (MSt w wr hi (.iface 171 (.pointer a)) rs0 P k c1 q x bb t pre)) (fun v _ _ _ => 1048576 - sliceLen v)
    case atStart => exact ⟨_, _, _, _, x, bb, _, _, rfl, rfl, rfl, HM⟩
    case round =>
      clear HM
      obtain ⟨P, k, c1, q, x, bb, t, pre, rfl, rfl, rfl, hM⟩ := hrel
      obtain ⟨h, rs, hh, hdr, hall⟩ := hM.out.hd
      cases bb with
      | false =>
        obtain rfl := hh.no
        have hbn : bestR rs = none := by
          unfold Drawn at hdr
          cases hb : bestR rs with
          | none => rfl
          | some p => rw [hb] at hdr; exact absurd hdr.1 (by simp)
        have HV : Hid (pre = mergeAll rs0) := Lib.hid (by rw [← hall, merge_none hbn, List.append_nil])
        clear hh hdr hall hbn
        go_wp2
        go_ret
        obtain rfl := hM.out.len
        rw [← HV.out]
        exact ⟨_, _, rfl, own_monoG hM.out.row (by omega), hM.out.bel⟩
      | true =>
        obtain rfl := hh.yes
        obtain ⟨rs', hrep, HALL⟩ : ∃ rs', Rep t rs' ∧ Hid ((pre ++ [x]) ++ mergeAll rs' = mergeAll rs0) := by
          unfold Drawn at hdr
          cases hb : bestR rs with
          | none => rw [hb] at hdr; exact absurd hdr.1 (by simp)
          | some p =>
            obtain ⟨i, y⟩ := p
            rw [hb] at hdr
            obtain ⟨e1, e2⟩ := hdr
            injection e1 with e1
            subst e1
            exact ⟨_, e2, Lib.hid (by rw [← hall, merge_step hb, List.append_assoc]; rfl)⟩
        have hk : k + 1 ≤ 1048576 := by
          have h1 := congrArg List.length HALL.out
          have h2 := HT.out
          have h3 := hM.out.len
          simp only [List.length_append, List.length_cons, List.length_nil] at h1
          omega
        have HREP := Lib.hid hrep
        have HON2 := Lib.hid (rec_one [x])
        have x0 := hM.out.box.cell (i := 0) rfl
        have x1 := hM.out.box.cell (i := 1) rfl
        have x2 := hM.out.box.cell (i := 2) rfl
        have hqs := hM.out.box.lt
        have hws := hM.out.bel.size
        have hlo := hM.out.lo
        have x0 : wr.cell? ⟨q, 0, none⟩ = some (.int .i64 x.f) := x0
        have x1 : wr.cell? ⟨q, 1, none⟩ = some (.int .i64 x.t) := x1
        have x2 : wr.cell? ⟨q, 2, none⟩ = some (.int .i64 x.w) := x2
        clear hh hdr hall hrep
        go_wp2_with (at_builtin; refine wpList_append_any _ rfl (.tmp 20) (.tmp 22) _ rfl hi 68 i0 _ 3 24 Tryd.underlying65 hi0 hz0 hz1 hz2 rfl (by omega) (.slice P k c1) k (pre.flatMap GE.cells) rfl (hM.out.row.alloc _) (wr.heap.size + 1) (some ⟨wr.heap.size, 0, none⟩) 1 1 (GE.cells x) rfl (rec_reads _ x _ _ rfl) (by simpa using HON2.out) (by simp only [maxLen]; omega) (by omega) (by simp; omega) ?_; intro v3 w3 hown3 hg3 hat3; obtain ⟨P3, c3, rfl⟩ := rec_form hown3; have RB3 := (hM.out.box.alloc (.cells #[.int .i64 x.f, .int .i64 x.t, .int .i64 x.w] 68)).grown hg3 (fun e => by have := hM.out.far q e; omega); have y0 : w3.cell? ⟨q, 0, none⟩ = some (.int .i64 x.f) := RB3.cell rfl; have y1 : w3.cell? ⟨q, 1, none⟩ = some (.int .i64 x.t) := RB3.cell rfl; have y2 : w3.cell? ⟨q, 2, none⟩ = some (.int .i64 x.w) := RB3.cell rfl)
        have HB3 := Lib.hid ((hM.out.bel.alloc hws (.cells #[.int .i64 x.f, .int .i64 x.t, .int .i64 x.w] 68)).grown hg3 (by simp; omega) (fun j hj => by have := (hM.out.row.lt j hj).1; omega))
        have hs3 : q < w3.heap.size := RB3.lt
        have HS3 := Lib.hid (hM.out.src.keep (w' := w3) (fun j _ hj hjw => (hg3.block j (by simp; omega) (fun e => by have := (hM.out.row.lt j e.symm).1; omega)).trans ((below_a1 wr (.cells #[.int .i64 x.f, .int .i64 x.t, .int .i64 x.w] 68)).block j hjw)))
        have HO3 := Lib.hid hown3
        have HS4 := Lib.hid (HS3.out.keep (fun j _ _ hjw => (below_a1 w3 (.cells #[.int .i64 x.f, .int .i64 x.t, .int .i64 x.w] 68)).block j hjw))
        have hws3 : w.heap.size ≤ w3.heap.size := by omega
        have HB4 := Lib.hid (HB3.out.alloc hws3 (.cells #[.int .i64 x.f, .int .i64 x.t, .int .i64 x.w] 68))
        have HL := Lib.hid hM.out.len
        clear hM hown3 hg3 hat3 RB3 y0 y1 y2 x0 x1 x2
        refine (CN.out _ t HS4.out HB4.out).mono ?_
        rintro e w5 ⟨z, zb, rfl, hh5, hs5, hw5⟩
        have HH5 := Lib.hid hh5
        have HS5 := Lib.hid hs5
        have HW5 := Lib.hid hw5
        have RB5 := Lib.hid ((Blk.new w3 #[.int .i64 x.f, .int .i64 x.t, .int .i64 x.w] 68).within hw5 (.inr (by omega)))
        have HO5 := Lib.hid (hw5.own (HO3.out.alloc (.cells #[.int .i64 x.f, .int .i64 x.t, .int .i64 x.w] 68)) (fun g hg hs => by have := (HO3.out.lt g hg).1; omega))
        have s0 : w5.cell? ⟨w3.heap.size, 0, none⟩ = some (.int .i64 x.f) := RB5.out.cell rfl
        have s1 : w5.cell? ⟨w3.heap.size, 1, none⟩ = some (.int .i64 x.t) := RB5.out.cell rfl
        have s2 : w5.cell? ⟨w3.heap.size, 2, none⟩ = some (.int .i64 x.w) := RB5.out.cell rfl
        have v0 := RB5.out.frozen 0
        have v1 := RB5.out.frozen 1
        have v2 := RB5.out.frozen 2
        clear hh5 hs5 hw5 HS3 HS4
        go_wp2
        have WS : Within w3.heap.size (w3.heap.size + 1) w5 (((w5.setCell ⟨w3.heap.size, 0, none⟩ (.int .i64 z.f)).setCell ⟨w3.heap.size, 1, none⟩ (.int .i64 z.t)).setCell ⟨w3.heap.size, 2, none⟩ (.int .i64 z.w)) :=
          Within.set (Within.set (Within.set (OnlyB.refl _ _) (by simp) _) (by simp) _) (by simp) _
        have HBX := Lib.hid (((RB5.out.set 0 (.int .i64 z.f)).set 1 (.int .i64 z.t)).set 2 (.int .i64 z.w))
        have HWS := Lib.hid WS
        clear s0 s1 s2 v0 v1 v2 WS
        generalize ((w5.setCell ⟨w3.heap.size, 0, none⟩ (.int .i64 z.f)).setCell ⟨w3.heap.size, 1, none⟩ (.int .i64 z.t)).setCell ⟨w3.heap.size, 2, none⟩ (.int .i64 z.w) = w6 at *
        go_roundw
        case rel =>
          refine ⟨P3, k + 1, c3, w3.heap.size, z, zb, t.next.2, pre ++ [x], rfl, rfl, rfl, Lib.hid ⟨?_, by simp [HL.out], fun g hg => (HO3.out.lt g hg).2, HBX.out, HS5.out.within HWS.out (.inl (by omega)), by omega, ?_, _, rs', HH5.out, next_drawn t rs' HREP.out, HALL.out⟩⟩
          · rw [List.flatMap_append]
            exact HWS.out.own (by simpa using HO5.out) (fun g hg hs => by have := (HO3.out.lt g hg).2; omega)
          · exact (HB4.out.trans (HW5.out.below (by simp; omega) (Nat.le_refl _))).trans (HWS.out.below (by have := HW5.out.size; simp at this; omega) hws3)
        case measure => simp [sliceLen]; omega
end Go.Proofs.YtmbabbapcjphgaaDoor
namespace Go.Proofs.YtmbabbapcjphgaaDoor
open Go.RowKit

set_option maxRecDepth 10000 in
set_option maxHeartbeats 400000 in
theorem implSortAll (A : Option Addr) (n c : Nat) (es : List GE) (b : Int) (w : World) (hr : SlG w A n es) (hn : n ≤ 1048576) (hc : n ≤ c) (hb : b ≤ 9223372036854775807) :
    Calls Tryd.prog 31 #[.slice A n c, .int .i64 b] w (MadeRc w (mergeAll (batchesZ b es))) := by
  have C := Lib.hid (implBatches A n c es b w hr hn hc hb)
  have h1 := batchesZ_len b es
  have h2 := batchesZ_total b es
  rw [hr.len] at h1 h2
  have HX1 := Lib.hid (Nat.le_trans h1 hn)
  have HX2 := Lib.hid (Nat.le_trans h2 hn)
  clear hr h1 h2
  go_enter Tryd.func31, Tryd.ntmps31
  go_wp2_with fail
  refine C.out.mono ?_
  rintro e w1 ⟨A1, n1, c1, b1, rfl, ho, hx, hb1⟩
  have S := Lib.hid (ho.small hx HX1.out HX2.out)
  have D1 := Lib.hid ho.sl
  have K1 := Lib.hid (bat_cap ho.row)
  have HX := Lib.hid hx
  have HB := Lib.hid hb1
  have hk : n1 ≤ 1048576 := S.out.c
  have ht : totalR (b1.map BE.es) ≤ 1048576 := by rw [hx]; exact HX2.out
  have CM := Lib.hid (implMerge A1 n1 c1 b1 w1 D1.out K1.out hk ht)
  rw [hx] at CM
  clear ho hx hb1 ht
  go_wp2_with fail
  refine CM.out.mono ?_
  rintro e w2 ⟨A2, c2, rfl, ho2, hb2⟩
  have HB2 := HB.out.size
  go_wp2
  go_ret
  exact ⟨A2, c2, rfl, own_monoG ho2 HB2, g_chain HB.out hb2⟩
end Go.Proofs.YtmbabbapcjphgaaDoor
