/- The contracts of the laws' helpers that compare: what reads the same is told to be the same, and nothing old is written. Condition: at most 2^21 of each. -/
import Derived.Test.YtdeijiochianpaaEntOwn
import Derived.Test.YtdeijiochianpaaCopy
import Derived.Test.YtdeijiochianpaaOpOk
import Derived.Deep.RegionWith
namespace Go.Proofs.Ytdeijiochianpaa
open Go.RowKit

theorem str_same (x : ByteArray) : (x.toList == x.toList) = true := by simp
theorem str_same' (x : ByteArray) : (x.toList != x.toList) = false := by simp

set_option maxHeartbeats 400000 in
theorem eqFile_any (s : ByteArray) (a b : Dat) (w : World) (ha : a.Ok w) (hb : b.Ok w) (hx : a.xs = b.xs) (hn : a.n ≤ 2097152) :
    Calls Try.prog 107 #[.agg #[.string s, .slice a.A a.n a.c], .agg #[.string s, .slice b.A b.n b.c]] w (Tells w true) := by
  have hnn : a.n = b.n := by rw [← ha.rd.len, ← hb.rd.len, hx]
  have C := Lib.hid (fun w' (h : Below w.heap.size w w') => same_any a.A b.A a.n a.c b.c a.xs w' (ha.rd.below h) (by rw [hnn, hx]; exact hb.rd.below h) hn)
  have hss := str_same s
  obtain ⟨A1, n1, c1, xs1⟩ := a
  obtain ⟨A2, n2, c2, xs2⟩ := b
  simp only at hnn hx
  subst hnn hx
  clear ha hb
  go_enter Try.func107, Try.ntmps107
  go_wp2_with fail
  refine (C.out _ (below_a2 _ _ _)).mono ?_
  rintro e w1 ⟨rfl, k, rfl⟩
  go_wp2
  go_ret
  exact ⟨rfl, below_drewN (below_a2 _ _ _) k⟩

set_option maxHeartbeats 400000 in
theorem eqOp_any (kind : Int) (s t : ByteArray) (a b : Dat) (w : World) (ha : a.Ok w) (hb : b.Ok w) (hx : a.xs = b.xs) (hn : a.n ≤ 2097152) :
    Calls Try.prog 25 #[.agg #[.int .i64 kind, .string s, .string t, .slice a.A a.n a.c], .agg #[.int .i64 kind, .string s, .string t, .slice b.A b.n b.c]] w (Tells w true) := by
  have hnn : a.n = b.n := by rw [← ha.rd.len, ← hb.rd.len, hx]
  have C := Lib.hid (fun w' (h : Below w.heap.size w w') => same_any a.A b.A a.n a.c b.c a.xs w' (ha.rd.below h) (by rw [hnn, hx]; exact hb.rd.below h) hn)
  have hss := str_same s
  have htt := str_same t
  obtain ⟨A1, n1, c1, xs1⟩ := a
  obtain ⟨A2, n2, c2, xs2⟩ := b
  simp only at hnn hx
  subst hnn hx
  clear ha hb
  go_enter Try.func25, Try.ntmps25
  go_wp2_with fail
  refine (C.out _ (below_a2 _ _ _)).mono ?_
  rintro e w1 ⟨rfl, k, rfl⟩
  go_wp2
  go_ret
  exact ⟨rfl, below_drewN (below_a2 _ _ _) k⟩

theorem file_split {e e' : Ent} (h : e.file = e'.file) : e.nm = e'.nm ∧ e.d.xs = e'.d.xs := by
  unfold Ent.file at h
  injection h with h1 h2
  exact ⟨h1, h2⟩
theorem op_split {e e' : OpE} (h : e.op = e'.op) : e.kind = e'.kind ∧ e.nm = e'.nm ∧ e.to = e'.to ∧ e.d.xs = e'.d.xs := by
  unfold OpE.op at h
  injection h with h1 h2
  injection h2 with h2 h3
  injection h3 with h3 h4
  exact ⟨h1, h2, h3, h4⟩
theorem map_at {α β : Type} {f : α → β} {xs ys : List α} (h : xs.map f = ys.map f) {k : Nat} {x y : α} (hx : xs[k]? = some x) (hy : ys[k]? = some y) : f x = f y := by
  have := congrArg (fun l => l[k]?) h
  simp only [List.getElem?_map, hx, hy, Option.map_some, Option.some.injEq] at this
  exact this

set_option maxRecDepth 10000 in
set_option maxHeartbeats 1000000 in
theorem eqFiles_any (A B : Option Addr) (n c d : Nat) (es es' : List Ent) (w : World) (ha : SlF w A n es) (hb : SlF w B n es') (hx : es.map Ent.file = es'.map Ent.file) (hn : n ≤ 2097152) (hs : ∀ e ∈ es, e.d.n ≤ 2097152) :
    Calls Try.prog 73 #[.slice A n c, .slice B n d] w (Tells w true) := by
  have HA := Lib.hid ha
  have HB := Lib.hid hb
  have HX := Lib.hid hx
  have HS := Lib.hid hs
  clear ha hb hx hs
  go_enter Try.func73, Try.ntmps73
  go_wp2
  go_loopw [5] (fun i wr => ∃ k : Nat, k ≤ n ∧ i = .int .i64 k ∧ Below w.heap.size w wr) (fun i _ => n - (intOf i).toNat)
  case atStart => exact ⟨0, Nat.zero_le _, rfl, Below.refl _ _⟩
  case round =>
    obtain ⟨k, hk, rfl, hbel⟩ := hrel
    by_cases hlt : k < n
    · obtain ⟨b, off, e, rfl, hbw, he, hok, c0, c1⟩ := HA.out.at_ hlt
      obtain ⟨b', off', e', rfl, hbw', he', hok', c0', c1'⟩ := HB.out.at_ hlt
      have c0 := (hbel.cell (p := ⟨b, off + k * 2, none⟩) hbw).trans c0
      have c1 := (hbel.cell (p := ⟨b, off + k * 2 + 1, none⟩) hbw).trans c1
      have c0' := (hbel.cell (p := ⟨b', off' + k * 2, none⟩) hbw').trans c0'
      have c1' := (hbel.cell (p := ⟨b', off' + k * 2 + 1, none⟩) hbw').trans c1'
      obtain ⟨hnm, hxs⟩ := file_split (map_at HX.out he.out he'.out)
      have HC := Lib.hid (fun w' (h : Below wr.heap.size wr w') => eqFile_any e.nm e.d e'.d w' ((hok.out.below hbel).below h) ((hok'.out.below hbel).below h) hxs (HS.out e (List.mem_of_getElem? he.out)))
      rw [← hnm] at c0'
      have HBL := Lib.hid hbel
      clear hbel hnm hxs
      go_wp2
      go_region_with (go_at_call 107; ((with_reducible refine (HC.out _ (by first | exact Below.refl _ _ | exact (Below.refl _ _).drew | exact below_drewN (Below.refl _ _) _)).mono ?_)); rintro e1 w1 ⟨rfl, hb1⟩)
      all_goals
        go_wp2
        go_roundw
        case rel => exact ⟨k + 1, by omega, by go_num, by first | exact HBL.out.trans (hb1.mono HBL.out.size) | exact HBL.out.drew.trans (hb1.mono HBL.out.size) | exact (HBL.out.drew.trans (hb1.mono HBL.out.size)).drew | exact (below_drewN HBL.out _).trans (hb1.mono HBL.out.size)⟩
        case measure => simp [intOf]; omega
    · go_wp2
      go_ret
      exact ⟨rfl, hbel⟩
set_option maxRecDepth 10000 in
set_option maxHeartbeats 1000000 in
theorem eqOps_any (A B : Option Addr) (n c d : Nat) (es es' : List OpE) (w : World) (ha : SlO w A n es) (hb : SlO w B n es') (hx : es.map OpE.op = es'.map OpE.op) (hn : n ≤ 2097152) (hs : ∀ e ∈ es, e.d.n ≤ 2097152) :
    Calls Try.prog 74 #[.slice A n c, .slice B n d] w (Tells w true) := by
  have HA := Lib.hid ha
  have HB := Lib.hid hb
  have HX := Lib.hid hx
  have HS := Lib.hid hs
  clear ha hb hx hs
  go_enter Try.func74, Try.ntmps74
  go_wp2
  go_loopw [5] (fun i wr => ∃ k : Nat, k ≤ n ∧ i = .int .i64 k ∧ Below w.heap.size w wr) (fun i _ => n - (intOf i).toNat)
  case atStart => exact ⟨0, Nat.zero_le _, rfl, Below.refl _ _⟩
  case round =>
    obtain ⟨k, hk, rfl, hbel⟩ := hrel
    by_cases hlt : k < n
    · obtain ⟨b, off, e, rfl, hbw, he, hok, c0, c1, c2, c3⟩ := HA.out.at_ hlt
      obtain ⟨b', off', e', rfl, hbw', he', hok', c0', c1', c2', c3'⟩ := HB.out.at_ hlt
      have c0 := (hbel.cell (p := ⟨b, off + k * 4, none⟩) hbw).trans c0
      have c1 := (hbel.cell (p := ⟨b, off + k * 4 + 1, none⟩) hbw).trans c1
      have c2 := (hbel.cell (p := ⟨b, off + k * 4 + 2, none⟩) hbw).trans c2
      have c3 := (hbel.cell (p := ⟨b, off + k * 4 + 3, none⟩) hbw).trans c3
      have c0' := (hbel.cell (p := ⟨b', off' + k * 4, none⟩) hbw').trans c0'
      have c1' := (hbel.cell (p := ⟨b', off' + k * 4 + 1, none⟩) hbw').trans c1'
      have c2' := (hbel.cell (p := ⟨b', off' + k * 4 + 2, none⟩) hbw').trans c2'
      have c3' := (hbel.cell (p := ⟨b', off' + k * 4 + 3, none⟩) hbw').trans c3'
      obtain ⟨hkd, hnm, hto, hxs⟩ := op_split (map_at HX.out he.out he'.out)
      have HC := Lib.hid (fun w' (h : Below wr.heap.size wr w') => eqOp_any e.kind e.nm e.to e.d e'.d w' ((hok.out.below hbel).below h) ((hok'.out.below hbel).below h) hxs (HS.out e (List.mem_of_getElem? he.out)))
      rw [← hkd] at c0'
      rw [← hnm] at c1'
      rw [← hto] at c2'
      have HBL := Lib.hid hbel
      clear hbel hnm hxs hkd hto
      go_wp2
      go_region_with (go_at_call 25; ((with_reducible refine (HC.out _ (by first | exact Below.refl _ _ | exact (Below.refl _ _).drew | exact below_drewN (Below.refl _ _) _)).mono ?_)); rintro e1 w1 ⟨rfl, hb1⟩)
      all_goals
        go_wp2
        go_roundw
        case rel => exact ⟨k + 1, by omega, by go_num, by first | exact HBL.out.trans (hb1.mono HBL.out.size) | exact HBL.out.drew.trans (hb1.mono HBL.out.size) | exact (HBL.out.drew.trans (hb1.mono HBL.out.size)).drew | exact (below_drewN HBL.out _).trans (hb1.mono HBL.out.size)⟩
        case measure => simp [intOf]; omega
    · go_wp2
      go_ret
      exact ⟨rfl, hbel⟩

set_option maxHeartbeats 1000000 in
theorem eqDisk_any (room fuse : Int) (A A' : Option Addr) (n c c' : Nat) (B B' : Option Addr) (m d d' : Nat) (es es' : List Ent) (os os' : List OpE) (w : World) (ha : SlF w A n es) (hb : SlF w A' n es') (hx : es.map Ent.file = es'.map Ent.file) (hn : n ≤ 2097152) (hs : ∀ e ∈ es, e.d.n ≤ 2097152)
    (ka : SlO w B m os) (kb : SlO w B' m os') (kx : os.map OpE.op = os'.map OpE.op) (km : m ≤ 2097152) (ks : ∀ e ∈ os, e.d.n ≤ 2097152) :
    Calls Try.prog 24 #[.agg #[.int .i64 room, .int .i64 fuse, .slice A n c, .slice B m d], .agg #[.int .i64 room, .int .i64 fuse, .slice A' n c', .slice B' m d']] w (Tells w true) := by
  have C := Lib.hid (fun w' (h : Below w.heap.size w w') => eqFiles_any A A' n c c' es es' w' (ha.below h) (hb.below h) hx hn hs)
  have D := Lib.hid (fun w' (h : Below w.heap.size w w') => eqOps_any B B' m d d' os os' w' (ka.below h) (kb.below h) kx km ks)
  clear ha hb hx hs ka kb kx ks
  go_enter Try.func24, Try.ntmps24
  go_wp2_with fail
  refine (C.out _ (below_a2 _ _ _)).mono ?_
  rintro e w1 ⟨rfl, hb1⟩
  obtain ⟨hc, hf⟩ := bcell hb1
  have HB := Lib.hid ((below_a2 _ _ _).trans (hb1.mono (by simp; omega)))
  clear hb1
  go_wp2_with fail
  refine (D.out _ HB.out).mono ?_
  rintro e w2 ⟨rfl, hb2⟩
  go_wp2
  go_ret
  exact ⟨rfl, HB.out.trans (hb2.mono HB.out.size)⟩
end Go.Proofs.Ytdeijiochianpaa
