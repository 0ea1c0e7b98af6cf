/- Shard edges and shards: the contracts of the laws' helpers that measure and copy. Condition: at most 2^21 edges. // Shard edges and shards: the contracts of the laws' helpers that compare, that leave marks and that look for them. Condition: at most 2^21 edges. // The opening of an argument that is a shard (no condition). -/
import Derived.Test.YtmbabbapcjphgaaKEB
import Derived.Test.YtmbabbapcjphgaaKE
import Derived.Test.YtmbabbapcjphgaaGrOpenB
namespace Go.Proofs.Ytmbabbapcjphgaa
open Go.RowKit

theorem szK_any (A : Option Addr) (n c : Nat) (left : Int) (w : World) (hn : n ≤ maxLen) (h0 : 0 ≤ left) (h1 : left ≤ 1048576) :
    Calls Try.prog 48 #[.slice A n c, .int .i64 left] w fun e w' => e = .returned (.int .i64 (leftG left n)) ∧ w = w' := by
  unfold maxLen at hn
  by_cases h : (n : Int) ≤ left
  · have HV := Lib.hid (leftG_pos h)
    have h2 : 0 ≤ left - (n : Int) := by omega
    go_enter Try.func48, Try.ntmps48
    go_wp2
    go_ret
    exact ⟨g_int HV.out.symm, rfl⟩
  · have HV := Lib.hid (leftG_neg (n := n) (left := left) (by omega))
    have h2 : left - (n : Int) < 0 := by omega
    go_enter Try.func48, Try.ntmps48
    go_wp2
    go_ret
    exact ⟨g_int HV.out.symm, rfl⟩
theorem szShard_any (lo hi : Int) (A : Option Addr) (n c : Nat) (left : Int) (w : World) (hn : n ≤ maxLen) (h0 : 0 ≤ left) (h1 : left ≤ 1048576) :
    Calls Try.prog 15 #[.agg #[.int .i64 lo, .int .i64 hi, .slice A n c], .int .i64 left] w (GNum w (leftG left n)) := by
  have C := Lib.hid (fun w => szK_any A n c left w hn h0 h1)
  by_cases h : (n : Int) ≤ left
  · have h2 : 0 ≤ left - (n : Int) := by omega
    have e1 := leftG_pos h
    rw [e1] at C ⊢
    generalize left - (n : Int) = q at C h2 ⊢
    clear e1 h
    go_enter Try.func15, Try.ntmps15
    go_wp2_with fail
    refine (C.out _).mono ?_
    rintro e w1 ⟨rfl, rfl⟩
    go_wp2
    go_ret
    exact ⟨rfl, below_a1 _ _⟩
  · have e1 := leftG_neg (n := n) (left := left) (by omega)
    rw [e1] at C ⊢
    clear e1 h
    go_enter Try.func15, Try.ntmps15
    go_wp2_with fail
    refine (C.out _).mono ?_
    rintro e w1 ⟨rfl, rfl⟩
    go_wp2
    go_ret
    exact ⟨rfl, below_a1 _ _⟩

theorem toK_any (e : KE) (w : World) :
    Calls Try.prog 89 #[.agg #[.int .i64 e.f, .int .i64 e.t, .int .i64 e.w, .int .i64 e.i, .int .i64 e.v]] w fun r w' => r = .returned (.agg #[.int .i64 e.f, .int .i64 e.t, .int .i64 e.w, .int .i64 e.i, .int .i64 e.v]) ∧ Below w.heap.size w w' := by
  go_enter Try.func89, Try.ntmps89
  go_wp2
  refine bodyPost_ret (v := .agg #[.int .i64 e.f, .int .i64 e.t, .int .i64 e.w, .int .i64 e.i, .int .i64 e.v]) (by simp [results, Try.results89, go_sem]) rfl ⟨rfl, ?_⟩
  repeat (first | exact below_a3 _ _ _ _ | refine Below.setCell ?_ (by simp <;> omega) _)

set_option maxRecDepth 10000 in
set_option maxHeartbeats 1000000 in
theorem toKs_any (A : Option Addr) (n c : Nat) (es : List KE) (w : World) (hr : SlK w A n es) (hn : n ≤ 2097152) :
    Calls Try.prog 50 #[.slice A n c] w (MadeKs w es) := by
  obtain ⟨i0, hi, hz0, hz1, hz2⟩ := info_parts Try.infoSEdge
  have HR := Lib.hid hr
  clear hr
  go_enter Try.func50, Try.ntmps50
  go_wp2_with (refine wpList_make_full _ rfl (.tmp 6) (.tmp 6) 33 rfl w.heap.size 77 i0 (.agg #[.int .i64 0, .int .i64 0, .int .i64 0, .int .i64 0, .int .i64 0]) 5 Try.underlying33 hi hz0 hz1 .i64 .i64 _ _ n rfl rfl rfl rfl (by rw [hz2]; omega) (by unfold maxLen; omega) (Nat.le_refl _) ?_; intro w1 hown hg)
  have hb1 : Below w.heap.size w w1 := (Below.refl _ _).grown hg (Nat.le_refl _) (by simp)
  have hown1 : w1.ownsRow w.heap.size 77 5 (.slice (some ⟨w.heap.size, 0, none⟩) n n) n ((es.take 0 ++ List.replicate (n - 0) zero5).flatMap KE.cells) := by
    have h := hown
    rw [g_rep KE.cells zero5 5 KE.cells_len (by omega) (Value.agg #[.int .i64 0, .int .i64 0, .int .i64 0, .int .i64 0, .int .i64 0]).cells rfl n] at h
    simpa using h
  clear hown hg
  have HO1 := Lib.hid hown1
  have HB1 := Lib.hid hb1
  clear hown1 hb1
  go_loopw [4] (fun i wr => ∃ k : Nat, k ≤ n ∧ i = .int .i64 k ∧ Hid (wr.ownsRow w.heap.size 77 5 (.slice (some ⟨w.heap.size, 0, none⟩) n n) n ((es.take k ++ List.replicate (n - k) zero5).flatMap KE.cells)) ∧ Hid (Below w.heap.size w wr)) (fun i _ => n - (intOf i).toNat)
  case atStart => exact ⟨0, Nat.zero_le _, rfl, HO1, HB1⟩
  case round =>
    clear HO1 HB1
    obtain ⟨k, hk, rfl, hown, hbel⟩ := hrel
    by_cases hlt : k < n
    · obtain ⟨b, off, e, rfl, hbw, he, c0, c1, c2, c3, c4⟩ := HR.out.at_ hlt
      have c0 := (hbel.out.cell (p := ⟨b, off + k * 5, none⟩) hbw).trans c0
      have c1 := (hbel.out.cell (p := ⟨b, off + k * 5 + 1, none⟩) hbw).trans c1
      have c2 := (hbel.out.cell (p := ⟨b, off + k * 5 + 2, none⟩) hbw).trans c2
      have c3 := (hbel.out.cell (p := ⟨b, off + k * 5 + 3, none⟩) hbw).trans c3
      have c4 := (hbel.out.cell (p := ⟨b, off + k * 5 + 4, none⟩) hbw).trans c4
      have HC := Lib.hid (toK_any e wr)
      have hmk : (es.take k).length = k := by rw [List.length_take, HR.out.len]; omega
      go_wp2_with fail
      refine HC.out.mono ?_
      rintro e1 w2 ⟨rfl, hb2⟩
      have HB2 := Lib.hid hb2
      have hown2 := own_below hown.out hb2
      rw [rep5_succ n k hlt] at hown2
      have hq := fun i (hi : i < 5) => (hown2.cellAt (k * 5 + i) (by omega)).trans (flat_get KE.cells 5 KE.cells_len _ k i zero5 (g_get _ _ _ _ hmk) hi)
      have hc0 : w2.cell? ⟨w.heap.size, k * 5, none⟩ = some (.int .i64 0) := hq 0 (by omega)
      have hc1 : w2.cell? ⟨w.heap.size, k * 5 + 1, none⟩ = some (.int .i64 0) := hq 1 (by omega)
      have hc2 : w2.cell? ⟨w.heap.size, k * 5 + 2, none⟩ = some (.int .i64 0) := hq 2 (by omega)
      have hc3 : w2.cell? ⟨w.heap.size, k * 5 + 3, none⟩ = some (.int .i64 0) := hq 3 (by omega)
      have hc4 : w2.cell? ⟨w.heap.size, k * 5 + 4, none⟩ = some (.int .i64 0) := hq 4 (by omega)
      have hf0 := hown2.frozenAt (k * 5)
      have hf1 := hown2.frozenAt (k * 5 + 1)
      have hf2 := hown2.frozenAt (k * 5 + 2)
      have hf3 := hown2.frozenAt (k * 5 + 3)
      have hf4 := hown2.frozenAt (k * 5 + 4)
      have HL := Lib.hid (k_lay (e := e) hown2 hmk)
      clear hown2 hq hb2
      go_wp2
      go_roundw
      case rel =>
        refine ⟨k + 1, by omega, by go_num, Lib.hid ?_, Lib.hid (((((((g_chain hbel.out HB2.out).setCell (Nat.le_refl _) _).setCell (Nat.le_refl _) _).setCell (Nat.le_refl _) _).setCell (Nat.le_refl _) _).setCell (Nat.le_refl _) _))⟩
        rw [g_take es k e he.out, List.append_assoc]
        exact HL.out.1
      case measure => simp [intOf]; omega
    · obtain rfl : k = n := by omega
      go_wp2
      go_ret
      have hfin := hown.out
      rw [Nat.sub_self, List.replicate_zero, List.append_nil, List.take_of_length_le (by rw [HR.out.len]; exact Nat.le_refl _), ← HR.out.len] at hfin
      refine ⟨some ⟨w.heap.size, 0, none⟩, es.length, ?_, hfin, hbel.out⟩
      rw [HR.out.len]
      rfl
set_option maxRecDepth 10000 in
set_option maxHeartbeats 1000000 in
theorem toShard_any (lo hi : Int) (A : Option Addr) (n c : Nat) (es : List KE) (w : World) (hr : SlK w A n es) (hn : n ≤ 2097152) :
    Calls Try.prog 17 #[.agg #[.int .i64 lo, .int .i64 hi, .slice A n c]] w (MadeSh w lo hi es) := by
  have C := Lib.hid (fun w' (hb : Below w.heap.size w w') => toKs_any A n c es w' (hr.below hb) hn)
  clear hr
  go_enter Try.func17, Try.ntmps17
  go_wp2_with fail
  refine (C.out _ ?_).mono ?_
  · repeat (first | exact below_a3 _ _ _ _ | refine Below.setCell ?_ (by simp <;> omega) _)
  · rintro e w1 ⟨A1, c1, rfl, ho1, hb1⟩
    obtain ⟨hc, hf⟩ := bcell hb1
    have hz : w.heap.size + 1 + 1 < w1.heap.size := by have := hb1.size; simp at this; omega
    have HB := Lib.hid hb1
    clear hb1
    go_wp2
    refine bodyPost_ret (v := .agg #[.int .i64 lo, .int .i64 hi, .slice A1 es.length c1]) (by simp [results, Try.results17, go_sem, hc]) rfl ⟨A1, c1, rfl, ?_, ?_⟩
    · have ho2 := ho1
      rw [World.size_alloc, World.size_alloc, World.size_alloc] at ho2
      refine own_monoG (lo := w.heap.size + 1 + 1 + 1) ?_ (by omega)
      repeat (first | exact ho2 | refine own_lowG ?_ (by simp <;> omega) _)
    · repeat (first | exact g_chain (by repeat (first | exact below_a3 _ _ _ _ | refine Below.setCell ?_ (by simp <;> omega) _)) HB.out | refine Below.setCell ?_ (by simp <;> omega) _)
end Go.Proofs.Ytmbabbapcjphgaa
namespace Go.Proofs.Ytmbabbapcjphgaa
open Go.RowKit

theorem eqK_any (e : KE) (w : World) :
    Calls Try.prog 91 #[.agg #[.int .i64 e.f, .int .i64 e.t, .int .i64 e.w, .int .i64 e.i, .int .i64 e.v], .agg #[.int .i64 e.f, .int .i64 e.t, .int .i64 e.w, .int .i64 e.i, .int .i64 e.v]] w (GTell w true) := by
  go_enter Try.func91, Try.ntmps91
  go_wp2
  go_ret
  exact ⟨rfl, below_a2 _ _ _⟩

set_option maxRecDepth 10000 in
set_option maxHeartbeats 1000000 in
theorem eqKs_any (A B : Option Addr) (n c d : Nat) (es : List KE) (w : World) (ha : SlK w A n es) (hb : SlK w B n es) (hn : n ≤ 2097152) :
    Calls Try.prog 54 #[.slice A n c, .slice B n d] w (GTell w true) := by
  have HA := Lib.hid ha
  have HB := Lib.hid hb
  have CE := Lib.hid (fun e W => eqK_any e W)
  clear ha hb
  go_enter Try.func54, Try.ntmps54
  go_wp2
  go_loopw [5] (fun i wr => ∃ k : Nat, k ≤ n ∧ i = .int .i64 k ∧ Hid (Below w.heap.size w wr)) (fun i _ => n - (intOf i).toNat)
  case atStart => exact ⟨0, Nat.zero_le _, rfl, Lib.hid (Below.refl _ _)⟩
  case round =>
    obtain ⟨k, hk, rfl, hbel⟩ := hrel
    by_cases hlt : k < n
    · obtain ⟨b, off, e, rfl, hbw, he, c0, c1, c2, c3, c4⟩ := HA.out.at_ hlt
      obtain ⟨b', off', e', rfl, hbw', he', c0', c1', c2', c3', c4'⟩ := HB.out.at_ hlt
      have hee : e' = e := by have h1 := he.out; rw [he'.out] at h1; injection h1
      subst hee
      have c0 := (hbel.out.cell (p := ⟨b, off + k * 5, none⟩) hbw).trans c0
      have c1 := (hbel.out.cell (p := ⟨b, off + k * 5 + 1, none⟩) hbw).trans c1
      have c2 := (hbel.out.cell (p := ⟨b, off + k * 5 + 2, none⟩) hbw).trans c2
      have c3 := (hbel.out.cell (p := ⟨b, off + k * 5 + 3, none⟩) hbw).trans c3
      have c4 := (hbel.out.cell (p := ⟨b, off + k * 5 + 4, none⟩) hbw).trans c4
      have c0' := (hbel.out.cell (p := ⟨b', off' + k * 5, none⟩) hbw').trans c0'
      have c1' := (hbel.out.cell (p := ⟨b', off' + k * 5 + 1, none⟩) hbw').trans c1'
      have c2' := (hbel.out.cell (p := ⟨b', off' + k * 5 + 2, none⟩) hbw').trans c2'
      have c3' := (hbel.out.cell (p := ⟨b', off' + k * 5 + 3, none⟩) hbw').trans c3'
      have c4' := (hbel.out.cell (p := ⟨b', off' + k * 5 + 4, none⟩) hbw').trans c4'
      clear he he'
      go_wp2
      go_region_with (go_at_call 91; ((with_reducible refine (CE.out e' _).mono ?_)); rintro e1 w1 ⟨rfl, hb1⟩)
      all_goals
        go_wp2
        go_roundw
        case rel => exact ⟨k + 1, by omega, by go_num, Lib.hid (by first | exact g_chain hbel.out hb1 | exact g_chain hbel.out.drew hb1 | exact (g_chain hbel.out.drew hb1).drew)⟩
        case measure => simp [intOf]; omega
    · go_wp2
      go_ret
      exact ⟨rfl, hbel.out⟩
theorem eqShard_any (lo hi : Int) (A B : Option Addr) (n c d : Nat) (es : List KE) (w : World) (ha : SlK w A n es) (hb : SlK w B n es) (hn : n ≤ 2097152) :
    Calls Try.prog 19 #[.agg #[.int .i64 lo, .int .i64 hi, .slice A n c], .agg #[.int .i64 lo, .int .i64 hi, .slice B n d]] w (GTell w true) := by
  have CE := Lib.hid (fun W (h : Below w.heap.size w W) => eqKs_any A B n c d es W (ha.below h) (hb.below h) hn)
  clear ha hb
  go_enter Try.func19, Try.ntmps19
  go_wp2_with fail
  refine (CE.out _ (below_a2 _ _ _)).mono ?_
  rintro e w1 ⟨rfl, hb1⟩
  go_wp2
  go_ret
  exact ⟨rfl, g_chain (below_a2 _ _ _) hb1⟩
end Go.Proofs.Ytmbabbapcjphgaa
namespace Go.Proofs.Ytmbabbapcjphgaa
open Go.RowKit

def keSh : Sh := .pair (.int .i64) (.pair (.int .i64) (.pair (.int .i64) (.pair (.int .i64) (.int .i64))))
def shardSh : Sh := .pair (.int .i64) (.pair (.int .i64) (.sl keSh))
def KeIn (e : KE) : Prop := (Lit.int .i64 e.f).wf = true ∧ (Lit.int .i64 e.t).wf = true ∧ (Lit.int .i64 e.w).wf = true ∧ (Lit.int .i64 e.i).wf = true ∧ (Lit.int .i64 e.v).wf = true
theorem RdR.ke {lo hi : Nat} {w : World} {cs : List Value} {d : keSh.D} (h : RdR lo hi w keSh cs d) : ∃ e : KE, cs = e.cells ∧ KeIn e := by
  obtain ⟨c1, r1, e1, h1, ⟨hk1, hw1⟩, hb⟩ := h
  obtain ⟨c2, r2, e2, h2, ⟨hk2, hw2⟩, hb⟩ := hb
  obtain ⟨c3, r3, e3, h3, ⟨hk3, hw3⟩, hb⟩ := hb
  obtain ⟨c4, r4, e4, h4, ⟨hk4, hw4⟩, hk5, hw5⟩ := hb
  exact ⟨⟨d.1, d.2.1, d.2.2.1, d.2.2.2.1, d.2.2.2.2⟩, by rw [e1, hk1, e2, hk2, e3, hk3, e4, hk4, hk5]; rfl, hw1, hw2, hw3, hw4, hw5⟩
theorem RdR.kes {lo hi : Nat} {w : World} {cs : List Value} {ds : List keSh.D} (h : RdR lo hi w (.sl keSh) cs ds) (hh : hi ≤ w.heap.size) : ∃ A n c es, cs = [.slice A n c] ∧ SlK w A n es ∧ n ≤ c ∧ n ≤ maxLen ∧ ∀ e ∈ es, KeIn e := by
  obtain ⟨A, n, c, e1, e2, e3, e4, h⟩ := h
  rcases Nat.eq_zero_or_pos n with h0 | h0
  · subst h0
    exact ⟨A, 0, c, [], e1, SlK.nil, e3, by omega, by simp⟩
  · obtain ⟨b, off, eA, _, hb, hall⟩ := h h0
    obtain ⟨es, h1, h2, h3⟩ := g_build KE.cells 5 KE.cells_len KeIn w b off n (fun j hj => by
      have hjl : j < ds.length := by omega
      obtain ⟨cs, _, hc, hr⟩ := hall j (ds[j]'hjl) (List.getElem?_eq_getElem hjl)
      obtain ⟨e, rfl, he⟩ := RdR.ke hr
      exact ⟨e, he, hc⟩)
    exact ⟨A, n, c, es, e1, ⟨h1, ⟨by rw [flat_len _ 5 KE.cells_len, h1], fun _ => ⟨b, off, eA, by omega, h2⟩⟩⟩, e3, by omega, h3⟩
/-- What a walk is told of a shard that came in. -/
structure ShIn (w : World) (lo hi : Int) (A : Option Addr) (n c : Nat) (es : List KE) : Prop where
  lo : (Lit.int .i64 lo).wf = true
  hi : (Lit.int .i64 hi).wf = true
  g : SlK w A n es
  c : n ≤ c
  l : n ≤ maxLen
  e : ∀ e ∈ es, KeIn e
theorem RdR.shard {a b : Nat} {w : World} {cs : List Value} {d : shardSh.D} (h : RdR a b w shardSh cs d) (hh : b ≤ w.heap.size) : ∃ lo hi A n c es, cs = [.int .i64 lo, .int .i64 hi, .slice A n c] ∧ ShIn w lo hi A n c es := by
  obtain ⟨c1, r1, e1, h1, ⟨hk1, hw1⟩, hb⟩ := h
  obtain ⟨c2, r2, e2, h2, ⟨hk2, hw2⟩, hb⟩ := hb
  obtain ⟨A, n, c, es, ea, hg, hc, hl, he⟩ := RdR.kes hb hh
  exact ⟨d.1, d.2.1, A, n, c, es, by rw [e1, hk1, e2, hk2, ea]; rfl, ⟨hw1, hw2, hg, hc, hl, he⟩⟩

section
variable {H : Type} {enc : TypeId × Value → H} {w : World} {base : Nat} {spare : Nat → Bool} {held : Bool}
theorem Try.cellsKi : Try.prog.cellsOf 3 = 1 := by kernel_rfl
theorem Try.cellsKe : Try.prog.cellsOf 121 = 5 := by kernel_rfl
theorem Try.cellsSKe : Try.prog.cellsOf 28 = 1 := by kernel_rfl
theorem Try.cellsShard : Try.prog.cellsOf 30 = 3 := by kernel_rfl
theorem opensKe : Opens enc Try.prog w base spare held 121 keSh :=
  opens_struct Try.underlying121 Try.cellsKe (opensF_cons rfl Try.cellsKi (opens_int Try.underlying3) (opensF_cons rfl Try.cellsKi (opens_int Try.underlying3) (opensF_cons rfl Try.cellsKi (opens_int Try.underlying3) (opensF_cons rfl Try.cellsKi (opens_int Try.underlying3) (opensF_last rfl Try.cellsKi (opens_int Try.underlying3))))))
theorem opensShard : Opens enc Try.prog w base spare held 30 shardSh :=
  opens_struct Try.underlying30 Try.cellsShard (opensF_cons rfl Try.cellsKi (opens_int Try.underlying3) (opensF_cons rfl Try.cellsKi (opens_int Try.underlying3) (opensF_last rfl Try.cellsSKe (opens_sl Try.underlying28 Try.cellsKe (by decide) opensKe))))

set_option maxRecDepth 100000 in
theorem open_shard {r : Reach} {b0 : Nat} {v : Value} {d : DataW H} {p : List MemPlace} (hv : Value.okWide Try.prog w r b0 30 v) (h : DataW.Trod enc Try.prog w base spare held 30 v d p) :
    ∃ lo hi A n c es, v = .agg #[.int .i64 lo, .int .i64 hi, .slice A n c] ∧ ShIn w lo hi A n c es := by
  obtain ⟨cs, rfl, _⟩ := Go.WideShapes.okWide_struct Try.underlying30 hv
  obtain ⟨fuel, hf⟩ := h
  obtain ⟨x, hx⟩ := opensShard _ _ _ hf
  obtain ⟨lo, hi, A, n, c, es, he, hi'⟩ := RdR.shard hx (Nat.le_refl _)
  refine ⟨lo, hi, A, n, c, es, ?_, hi'⟩
  have : cs.toList = [.int .i64 lo, .int .i64 hi, .slice A n c] := by simpa [Value.cells] using he
  cases cs
  simp only at this
  rw [this]
end
end Go.Proofs.Ytmbabbapcjphgaa
