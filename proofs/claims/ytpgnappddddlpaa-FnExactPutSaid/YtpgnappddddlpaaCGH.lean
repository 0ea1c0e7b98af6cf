/- Slices of numbers as arguments of the laws: the helper that copies one into new memory; the opening of one that came in. Condition: at most 2^21 numbers. // Shard edges and shards: the contracts of the laws' helpers that measure and copy. Condition: at most 2^21 edges. // The opening of an argument that is a shard (no condition). // The contracts of the laws' helpers that measure and copy lists of shards; the opening of an argument that is a list of shards. Condition: at most 2^21 of each. // Shard edges and shards: the contracts of the laws' helpers that compare, that leave marks and that look for them. Condition: at most 2^21 edges. // The contracts of the laws' helpers that compare lists of shards. Condition: at most 2^21 of each. -/
import Derived.Test.YtpgnappddddlpaaCGG
import Derived.Test.YtpgnappddddlpaaCGB
import Derived.Test.YtpgnappddddlpaaCGC
import Derived.Test.YtpgnappddddlpaaCGA
import Derived.StillTailTactics
namespace Go.Proofs.Ytpgnappddddlpaa
open Go.RowKit

/-- The first k cells are those of xs, the rest nought. -/
def halfI (xs : List Int) (k : Nat) : List Int := xs.take k ++ List.replicate (xs.length - k) 0
theorem halfI_zero (xs : List Int) : halfI xs 0 = List.replicate xs.length 0 := by simp [halfI]
theorem halfI_full (xs : List Int) : halfI xs xs.length = xs := by simp [halfI]
theorem halfI_step (xs : List Int) (k : Nat) (x : Int) (h : xs[k]? = some x) : (vi (halfI xs k)).set k (.int .i64 x) = vi (halfI xs (k + 1)) := by
  have hk : k < xs.length := (List.getElem?_eq_some_iff.1 h).1
  have hx : xs[k] = x := (List.getElem?_eq_some_iff.1 h).2
  have : (halfI xs k).set k x = halfI xs (k + 1) := by
    unfold halfI
    rw [List.set_append_right _ _ (by simp; omega), List.take_succ_eq_append_getElem hk, List.append_assoc]
    congr 1
    rw [List.length_take, Nat.min_eq_left (by omega), Nat.sub_self, show xs.length - k = (xs.length - (k + 1)) + 1 by omega, List.replicate_succ]
    simp [hx]
  rw [← this]
  simp [vi, List.map_set]

def MadeN (w : World) (n : Nat) (xs : List Int) (e : Ending) (w' : World) : Prop :=
  ∃ A c, e = .returned (.slice A n c) ∧ OwI w' w.heap.size A n c xs ∧ Below w.heap.size w w'

set_option maxHeartbeats 400000 in
theorem copyInts_any (A : Option Addr) (n c : Nat) (xs : List Int) (w : World) (hr : SlI w A n xs) (hn : n ≤ 2097152) :
    Calls Try.prog 41 #[.slice A n c] w (MadeN w n xs) := by
  obtain ⟨i0, hi, hz0, hz1, hz2⟩ := info_parts Try.infoInt
  have hl := Lib.hid hr.len
  have HR := Lib.hid hr
  clear hr
  go_enter Try.func41, Try.ntmps41
  go_wp2_with (refine wpList_make_full _ rfl (.tmp 6) (.tmp 6) 23 rfl w.heap.size 3 i0 (.int .i64 0) 1 Try.underlying23 hi hz0 hz1 .i64 .i64 _ _ n rfl rfl rfl rfl (by rw [hz2]; omega) (by unfold maxLen; omega) (Nat.le_refl _) ?_; intro w1 hown hg)
  have hb1 : Below w.heap.size w w1 := (Below.refl _ _).grown hg (Nat.le_refl _) (by simp)
  have hown1 : w1.ownsRow w.heap.size 3 1 (.slice (some ⟨w.heap.size, 0, none⟩) n n) n (vi (halfI xs 0)) := by
    have h := hown
    rw [g_rep (fun x : Int => [Value.int .i64 x]) 0 1 (fun _ => rfl) (by omega) (Value.int .i64 0).cells rfl n, flat_one] at h
    rw [halfI_zero, hl.out]
    exact h
  clear hown hg
  go_loopw [4] (fun i wr => ∃ k : Nat, k ≤ n ∧ i = .int .i64 k ∧ wr.ownsRow w.heap.size 3 1 (.slice (some ⟨w.heap.size, 0, none⟩) n n) n (vi (halfI xs k)) ∧ Below w.heap.size w wr) (fun i _ => n - (intOf i).toNat)
  case atStart => exact ⟨0, Nat.zero_le _, rfl, hown1, hb1⟩
  case round =>
    obtain ⟨k, hk, rfl, hown, hbel⟩ := hrel
    by_cases hlt : k < n
    · obtain ⟨b, off, x, rfl, hbw, hxs, hc⟩ := HR.out.at_ hlt
      have hcell : wr.cell? ⟨b, off + k, none⟩ = some (.int .i64 x) := (hbel.cell (by exact hbw)).trans hc
      have hl2 : k < (vi (halfI xs k)).length := by rw [hown.1]; omega
      have hcell2 : wr.cell? ⟨w.heap.size, k, none⟩ = some (vi (halfI xs k))[k] := by rw [hown.cellAt k (by omega), List.getElem?_eq_getElem hl2]
      have hfr := hown.frozenAt k
      have hst := hown.stored k (.int .i64 x)
      rw [halfI_step xs k x hxs.out] at hst
      have hb2 := hbel.setCell (p := ⟨w.heap.size, k, none⟩) (Nat.le_refl _) (.int .i64 x)
      have hst1 := Lib.hid hst.1
      generalize (vi (halfI xs k))[k] = old at hcell2
      clear hst hown hl2 hc
      go_wp2
      go_roundw
      case rel => exact ⟨k + 1, by omega, by go_num, hst1.out, hb2⟩
      case measure => simp [intOf]; omega
    · obtain rfl : k = n := by omega
      go_wp2
      go_ret
      have e := hl.out
      subst e
      rw [halfI_full] at hown
      exact ⟨_, _, rfl, hown, hbel⟩

/-! ### one that came in -/
def NumIn (x : Int) : Prop := (Lit.int .i64 x).wf = true
/-- What a walk is told of a slice of numbers that came in. -/
structure IntsIn (w : World) (A : Option Addr) (n c : Nat) (xs : List Int) : Prop where
  g : SlI w A n xs
  l : n ≤ maxLen
  c : n ≤ c
  e : ∀ x ∈ xs, NumIn x
theorem flat_vi (xs : List Int) : xs.flatMap (fun x : Int => [Value.int .i64 x]) = vi xs := flat_one xs
theorem RdR.nums {lo hi : Nat} {w : World} {cs : List Value} {ds : List Int} (h : RdR lo hi w (.sl (.int .i64)) cs ds) (hh : hi ≤ w.heap.size) : ∃ A n c xs, cs = [.slice A n c] ∧ IntsIn w A n c xs := by
  obtain ⟨A, n, c, e1, e2, e3, e4, h⟩ := h
  rcases Nat.eq_zero_or_pos n with h0 | h0
  · subst h0
    exact ⟨A, 0, c, [], e1, ⟨SlI.nil, by omega, e3, by simp⟩⟩
  · obtain ⟨b, off, eA, _, hb, hall⟩ := h h0
    obtain ⟨xs, h1, h2, h3⟩ := g_build (fun x : Int => [Value.int .i64 x]) 1 (fun _ => rfl) NumIn w b off n (fun j hj => by
      have e5 : List.length (α := Int) ds = n := e2
      have hjl : j < List.length (α := Int) ds := by omega
      obtain ⟨cs, _, hc, hr⟩ := hall j (ds[j]'hjl) (List.getElem?_eq_getElem hjl)
      obtain ⟨rfl, hwf⟩ := hr
      exact ⟨_, hwf, hc⟩)
    rw [flat_vi] at h2
    exact ⟨A, n, c, xs, e1, ⟨⟨h1, ⟨by rw [vi_len, h1, Nat.mul_one], fun _ => ⟨b, off, eA, by omega, h2⟩⟩⟩, by omega, e3, h3⟩⟩

section
variable {H : Type} {enc : TypeId × Value → H} {w : World} {base : Nat} {spare : Nat → Bool} {held : Bool}
theorem Try.cellsSI : Try.prog.cellsOf 23 = 1 := by kernel_rfl
theorem opensNums : Opens enc Try.prog w base spare held 23 (.sl (.int .i64)) := opens_sl Try.underlying23 Try.cellsGi (by decide) (opens_int Try.underlying3)
set_option maxRecDepth 100000 in
theorem open_ints {r : Reach} {b0 : Nat} {v : Value} {d : DataW H} {p : List MemPlace} (hv : Value.okWide Try.prog w r b0 23 v) (h : DataW.Trod enc Try.prog w base spare held 23 v d p) :
    ∃ A n c xs, v = .slice A n c ∧ IntsIn w A n c xs := by
  obtain ⟨a, len, cap, rfl⟩ := Go.WideShapes.okWide_slice Try.underlying23 hv
  obtain ⟨fuel, hf⟩ := h
  obtain ⟨x, hx⟩ := opensNums _ _ _ hf
  obtain ⟨A, n, c, xs, he, hi⟩ := RdR.nums hx (Nat.le_refl _)
  have h9 : [Value.slice a len cap] = [.slice A n c] := by simpa [Value.cells] using he
  injection h9 with h9
  exact ⟨A, n, c, xs, h9, hi⟩
end
end Go.Proofs.Ytpgnappddddlpaa
namespace Go.Proofs.Ytpgnappddddlpaa
open Go.RowKit

theorem szK_any (A : Option Addr) (n c : Nat) (left : Int) (w : World) (hn : n ≤ maxLen) (h0 : 0 ≤ left) (h1 : left ≤ 1048576) :
    Calls Try.prog 147 #[.slice A n c, .int .i64 left] w fun e w' => e = .returned (.int .i64 (leftG left n)) ∧ w = w' := by
  unfold maxLen at hn
  by_cases h : (n : Int) ≤ left
  · have HV := Lib.hid (leftG_pos h)
    have h2 : 0 ≤ left - (n : Int) := by omega
    go_enter Try.func147, Try.ntmps147
    go_wp2
    go_ret
    exact ⟨g_int HV.out.symm, rfl⟩
  · have HV := Lib.hid (leftG_neg (n := n) (left := left) (by omega))
    have h2 : left - (n : Int) < 0 := by omega
    go_enter Try.func147, Try.ntmps147
    go_wp2
    go_ret
    exact ⟨g_int HV.out.symm, rfl⟩
theorem szShard_any (lo hi : Int) (A : Option Addr) (n c : Nat) (left : Int) (w : World) (hn : n ≤ maxLen) (h0 : 0 ≤ left) (h1 : left ≤ 1048576) :
    Calls Try.prog 114 #[.agg #[.int .i64 lo, .int .i64 hi, .slice A n c], .int .i64 left] w (GNum w (leftG left n)) := by
  have C := Lib.hid (fun w => szK_any A n c left w hn h0 h1)
  by_cases h : (n : Int) ≤ left
  · have h2 : 0 ≤ left - (n : Int) := by omega
    have e1 := leftG_pos h
    rw [e1] at C ⊢
    generalize left - (n : Int) = q at C h2 ⊢
    clear e1 h
    go_enter Try.func114, Try.ntmps114
    go_wp2_with fail
    refine (C.out _).mono ?_
    rintro e w1 ⟨rfl, rfl⟩
    go_wp2
    go_ret
    exact ⟨rfl, below_a1 _ _⟩
  · have e1 := leftG_neg (n := n) (left := left) (by omega)
    rw [e1] at C ⊢
    clear e1 h
    go_enter Try.func114, Try.ntmps114
    go_wp2_with fail
    refine (C.out _).mono ?_
    rintro e w1 ⟨rfl, rfl⟩
    go_wp2
    go_ret
    exact ⟨rfl, below_a1 _ _⟩

theorem toK_any (e : KE) (w : World) :
    Calls Try.prog 157 #[.agg #[.int .i64 e.f, .int .i64 e.t, .int .i64 e.w, .int .i64 e.i, .int .i64 e.v]] w fun r w' => r = .returned (.agg #[.int .i64 e.f, .int .i64 e.t, .int .i64 e.w, .int .i64 e.i, .int .i64 e.v]) ∧ Below w.heap.size w w' := by
  go_enter Try.func157, Try.ntmps157
  go_wp2
  refine bodyPost_ret (v := .agg #[.int .i64 e.f, .int .i64 e.t, .int .i64 e.w, .int .i64 e.i, .int .i64 e.v]) (by simp [results, Try.results157, go_sem]) rfl ⟨rfl, ?_⟩
  repeat (first | exact below_a3 _ _ _ _ | refine Below.setCell ?_ (by simp <;> omega) _)

set_option maxRecDepth 10000 in
set_option maxHeartbeats 1000000 in
theorem toKs_any (A : Option Addr) (n c : Nat) (es : List KE) (w : World) (hr : SlK w A n es) (hn : n ≤ 2097152) :
    Calls Try.prog 149 #[.slice A n c] w (MadeKs w es) := by
  obtain ⟨i0, hi, hz0, hz1, hz2⟩ := info_parts Try.infoSEdge
  have HR := Lib.hid hr
  clear hr
  go_enter Try.func149, Try.ntmps149
  go_wp2_with (refine wpList_make_full _ rfl (.tmp 6) (.tmp 6) 83 rfl w.heap.size 40 i0 (.agg #[.int .i64 0, .int .i64 0, .int .i64 0, .int .i64 0, .int .i64 0]) 5 Try.underlying83 hi hz0 hz1 .i64 .i64 _ _ n rfl rfl rfl rfl (by rw [hz2]; omega) (by unfold maxLen; omega) (Nat.le_refl _) ?_; intro w1 hown hg)
  have hb1 : Below w.heap.size w w1 := (Below.refl _ _).grown hg (Nat.le_refl _) (by simp)
  have hown1 : w1.ownsRow w.heap.size 40 5 (.slice (some ⟨w.heap.size, 0, none⟩) n n) n ((es.take 0 ++ List.replicate (n - 0) zero5).flatMap KE.cells) := by
    have h := hown
    rw [g_rep KE.cells zero5 5 KE.cells_len (by omega) (Value.agg #[.int .i64 0, .int .i64 0, .int .i64 0, .int .i64 0, .int .i64 0]).cells rfl n] at h
    simpa using h
  clear hown hg
  have HO1 := Lib.hid hown1
  have HB1 := Lib.hid hb1
  clear hown1 hb1
  go_loopw [4] (fun i wr => ∃ k : Nat, k ≤ n ∧ i = .int .i64 k ∧ Hid (wr.ownsRow w.heap.size 40 5 (.slice (some ⟨w.heap.size, 0, none⟩) n n) n ((es.take k ++ List.replicate (n - k) zero5).flatMap KE.cells)) ∧ Hid (Below w.heap.size w wr)) (fun i _ => n - (intOf i).toNat)
  case atStart => exact ⟨0, Nat.zero_le _, rfl, HO1, HB1⟩
  case round =>
    clear HO1 HB1
    obtain ⟨k, hk, rfl, hown, hbel⟩ := hrel
    by_cases hlt : k < n
    · obtain ⟨b, off, e, rfl, hbw, he, c0, c1, c2, c3, c4⟩ := HR.out.at_ hlt
      have c0 := (hbel.out.cell (p := ⟨b, off + k * 5, none⟩) hbw).trans c0
      have c1 := (hbel.out.cell (p := ⟨b, off + k * 5 + 1, none⟩) hbw).trans c1
      have c2 := (hbel.out.cell (p := ⟨b, off + k * 5 + 2, none⟩) hbw).trans c2
      have c3 := (hbel.out.cell (p := ⟨b, off + k * 5 + 3, none⟩) hbw).trans c3
      have c4 := (hbel.out.cell (p := ⟨b, off + k * 5 + 4, none⟩) hbw).trans c4
      have HC := Lib.hid (toK_any e wr)
      have hmk : (es.take k).length = k := by rw [List.length_take, HR.out.len]; omega
      go_wp2_with fail
      refine HC.out.mono ?_
      rintro e1 w2 ⟨rfl, hb2⟩
      have HB2 := Lib.hid hb2
      have hown2 := own_below hown.out hb2
      rw [rep5_succ n k hlt] at hown2
      have hq := fun i (hi : i < 5) => (hown2.cellAt (k * 5 + i) (by omega)).trans (flat_get KE.cells 5 KE.cells_len _ k i zero5 (g_get _ _ _ _ hmk) hi)
      have hc0 : w2.cell? ⟨w.heap.size, k * 5, none⟩ = some (.int .i64 0) := hq 0 (by omega)
      have hc1 : w2.cell? ⟨w.heap.size, k * 5 + 1, none⟩ = some (.int .i64 0) := hq 1 (by omega)
      have hc2 : w2.cell? ⟨w.heap.size, k * 5 + 2, none⟩ = some (.int .i64 0) := hq 2 (by omega)
      have hc3 : w2.cell? ⟨w.heap.size, k * 5 + 3, none⟩ = some (.int .i64 0) := hq 3 (by omega)
      have hc4 : w2.cell? ⟨w.heap.size, k * 5 + 4, none⟩ = some (.int .i64 0) := hq 4 (by omega)
      have hf0 := hown2.frozenAt (k * 5)
      have hf1 := hown2.frozenAt (k * 5 + 1)
      have hf2 := hown2.frozenAt (k * 5 + 2)
      have hf3 := hown2.frozenAt (k * 5 + 3)
      have hf4 := hown2.frozenAt (k * 5 + 4)
      have HL := Lib.hid (k_lay (e := e) hown2 hmk)
      clear hown2 hq hb2
      go_wp2
      go_roundw
      case rel =>
        refine ⟨k + 1, by omega, by go_num, Lib.hid ?_, Lib.hid (((((((g_chain hbel.out HB2.out).setCell (Nat.le_refl _) _).setCell (Nat.le_refl _) _).setCell (Nat.le_refl _) _).setCell (Nat.le_refl _) _).setCell (Nat.le_refl _) _))⟩
        rw [g_take es k e he.out, List.append_assoc]
        exact HL.out.1
      case measure => simp [intOf]; omega
    · obtain rfl : k = n := by omega
      go_wp2
      go_ret
      have hfin := hown.out
      rw [Nat.sub_self, List.replicate_zero, List.append_nil, List.take_of_length_le (by rw [HR.out.len]; exact Nat.le_refl _), ← HR.out.len] at hfin
      refine ⟨some ⟨w.heap.size, 0, none⟩, es.length, ?_, hfin, hbel.out⟩
      rw [HR.out.len]
      rfl
set_option maxRecDepth 10000 in
set_option maxHeartbeats 1000000 in
theorem toShard_any (lo hi : Int) (A : Option Addr) (n c : Nat) (es : List KE) (w : World) (hr : SlK w A n es) (hn : n ≤ 2097152) :
    Calls Try.prog 116 #[.agg #[.int .i64 lo, .int .i64 hi, .slice A n c]] w (MadeSh w lo hi es) := by
  have C := Lib.hid (fun w' (hb : Below w.heap.size w w') => toKs_any A n c es w' (hr.below hb) hn)
  clear hr
  go_enter Try.func116, Try.ntmps116
  go_wp2_with fail
  refine (C.out _ ?_).mono ?_
  · repeat (first | exact below_a3 _ _ _ _ | refine Below.setCell ?_ (by simp <;> omega) _)
  · rintro e w1 ⟨A1, c1, rfl, ho1, hb1⟩
    obtain ⟨hc, hf⟩ := bcell hb1
    have hz : w.heap.size + 1 + 1 < w1.heap.size := by have := hb1.size; simp at this; omega
    have HB := Lib.hid hb1
    clear hb1
    go_wp2
    refine bodyPost_ret (v := .agg #[.int .i64 lo, .int .i64 hi, .slice A1 es.length c1]) (by simp [results, Try.results116, go_sem, hc]) rfl ⟨A1, c1, rfl, ?_, ?_⟩
    · have ho2 := ho1
      rw [World.size_alloc, World.size_alloc, World.size_alloc] at ho2
      refine own_monoG (lo := w.heap.size + 1 + 1 + 1) ?_ (by omega)
      repeat (first | exact ho2 | refine own_lowG ?_ (by simp <;> omega) _)
    · repeat (first | exact g_chain (by repeat (first | exact below_a3 _ _ _ _ | refine Below.setCell ?_ (by simp <;> omega) _)) HB.out | refine Below.setCell ?_ (by simp <;> omega) _)
end Go.Proofs.Ytpgnappddddlpaa
namespace Go.Proofs.Ytpgnappddddlpaa
open Go.RowKit

def keSh : Sh := .pair (.int .i64) (.pair (.int .i64) (.pair (.int .i64) (.pair (.int .i64) (.int .i64))))
def shardSh : Sh := .pair (.int .i64) (.pair (.int .i64) (.sl keSh))
def KeIn (e : KE) : Prop := (Lit.int .i64 e.f).wf = true ∧ (Lit.int .i64 e.t).wf = true ∧ (Lit.int .i64 e.w).wf = true ∧ (Lit.int .i64 e.i).wf = true ∧ (Lit.int .i64 e.v).wf = true
theorem RdR.ke {lo hi : Nat} {w : World} {cs : List Value} {d : keSh.D} (h : RdR lo hi w keSh cs d) : ∃ e : KE, cs = e.cells ∧ KeIn e := by
  obtain ⟨c1, r1, e1, h1, ⟨hk1, hw1⟩, hb⟩ := h
  obtain ⟨c2, r2, e2, h2, ⟨hk2, hw2⟩, hb⟩ := hb
  obtain ⟨c3, r3, e3, h3, ⟨hk3, hw3⟩, hb⟩ := hb
  obtain ⟨c4, r4, e4, h4, ⟨hk4, hw4⟩, hk5, hw5⟩ := hb
  exact ⟨⟨d.1, d.2.1, d.2.2.1, d.2.2.2.1, d.2.2.2.2⟩, by rw [e1, hk1, e2, hk2, e3, hk3, e4, hk4, hk5]; rfl, hw1, hw2, hw3, hw4, hw5⟩
theorem RdR.kes {lo hi : Nat} {w : World} {cs : List Value} {ds : List keSh.D} (h : RdR lo hi w (.sl keSh) cs ds) (hh : hi ≤ w.heap.size) : ∃ A n c es, cs = [.slice A n c] ∧ SlK w A n es ∧ n ≤ c ∧ n ≤ maxLen ∧ ∀ e ∈ es, KeIn e := by
  obtain ⟨A, n, c, e1, e2, e3, e4, h⟩ := h
  rcases Nat.eq_zero_or_pos n with h0 | h0
  · subst h0
    exact ⟨A, 0, c, [], e1, SlK.nil, e3, by omega, by simp⟩
  · obtain ⟨b, off, eA, _, hb, hall⟩ := h h0
    obtain ⟨es, h1, h2, h3⟩ := g_build KE.cells 5 KE.cells_len KeIn w b off n (fun j hj => by
      have hjl : j < ds.length := by omega
      obtain ⟨cs, _, hc, hr⟩ := hall j (ds[j]'hjl) (List.getElem?_eq_getElem hjl)
      obtain ⟨e, rfl, he⟩ := RdR.ke hr
      exact ⟨e, he, hc⟩)
    exact ⟨A, n, c, es, e1, ⟨h1, ⟨by rw [flat_len _ 5 KE.cells_len, h1], fun _ => ⟨b, off, eA, by omega, h2⟩⟩⟩, e3, by omega, h3⟩
/-- What a walk is told of a shard that came in. -/
structure ShIn (w : World) (lo hi : Int) (A : Option Addr) (n c : Nat) (es : List KE) : Prop where
  lo : (Lit.int .i64 lo).wf = true
  hi : (Lit.int .i64 hi).wf = true
  g : SlK w A n es
  c : n ≤ c
  l : n ≤ maxLen
  e : ∀ e ∈ es, KeIn e
theorem RdR.shard {a b : Nat} {w : World} {cs : List Value} {d : shardSh.D} (h : RdR a b w shardSh cs d) (hh : b ≤ w.heap.size) : ∃ lo hi A n c es, cs = [.int .i64 lo, .int .i64 hi, .slice A n c] ∧ ShIn w lo hi A n c es := by
  obtain ⟨c1, r1, e1, h1, ⟨hk1, hw1⟩, hb⟩ := h
  obtain ⟨c2, r2, e2, h2, ⟨hk2, hw2⟩, hb⟩ := hb
  obtain ⟨A, n, c, es, ea, hg, hc, hl, he⟩ := RdR.kes hb hh
  exact ⟨d.1, d.2.1, A, n, c, es, by rw [e1, hk1, e2, hk2, ea]; rfl, ⟨hw1, hw2, hg, hc, hl, he⟩⟩

section
variable {H : Type} {enc : TypeId × Value → H} {w : World} {base : Nat} {spare : Nat → Bool} {held : Bool}
theorem Try.cellsKi : Try.prog.cellsOf 3 = 1 := by kernel_rfl
theorem Try.cellsKe : Try.prog.cellsOf 164 = 5 := by kernel_rfl
theorem Try.cellsSKe : Try.prog.cellsOf 140 = 1 := by kernel_rfl
theorem Try.cellsShard : Try.prog.cellsOf 142 = 3 := by kernel_rfl
theorem opensKe : Opens enc Try.prog w base spare held 164 keSh :=
  opens_struct Try.underlying164 Try.cellsKe (opensF_cons rfl Try.cellsKi (opens_int Try.underlying3) (opensF_cons rfl Try.cellsKi (opens_int Try.underlying3) (opensF_cons rfl Try.cellsKi (opens_int Try.underlying3) (opensF_cons rfl Try.cellsKi (opens_int Try.underlying3) (opensF_last rfl Try.cellsKi (opens_int Try.underlying3))))))
theorem opensShard : Opens enc Try.prog w base spare held 142 shardSh :=
  opens_struct Try.underlying142 Try.cellsShard (opensF_cons rfl Try.cellsKi (opens_int Try.underlying3) (opensF_cons rfl Try.cellsKi (opens_int Try.underlying3) (opensF_last rfl Try.cellsSKe (opens_sl Try.underlying140 Try.cellsKe (by decide) opensKe))))

set_option maxRecDepth 100000 in
theorem open_shard {r : Reach} {b0 : Nat} {v : Value} {d : DataW H} {p : List MemPlace} (hv : Value.okWide Try.prog w r b0 142 v) (h : DataW.Trod enc Try.prog w base spare held 142 v d p) :
    ∃ lo hi A n c es, v = .agg #[.int .i64 lo, .int .i64 hi, .slice A n c] ∧ ShIn w lo hi A n c es := by
  obtain ⟨cs, rfl, _⟩ := Go.WideShapes.okWide_struct Try.underlying142 hv
  obtain ⟨fuel, hf⟩ := h
  obtain ⟨x, hx⟩ := opensShard _ _ _ hf
  obtain ⟨lo, hi, A, n, c, es, he, hi'⟩ := RdR.shard hx (Nat.le_refl _)
  refine ⟨lo, hi, A, n, c, es, ?_, hi'⟩
  have : cs.toList = [.int .i64 lo, .int .i64 hi, .slice A n c] := by simpa [Value.cells] using he
  cases cs
  simp only at this
  rw [this]
end
end Go.Proofs.Ytpgnappddddlpaa
namespace Go.Proofs.Ytpgnappddddlpaa
open Go.RowKit

set_option maxRecDepth 10000 in
set_option maxHeartbeats 1000000 in
theorem szHs_any (A : Option Addr) (n c : Nat) (bs : List HE) (left : Int) (w : World) (hr : SlH w A n bs) (hn : n ≤ maxLen) (hs : ∀ e ∈ bs, e.n ≤ maxLen) (h0 : 0 ≤ left) (h1 : left ≤ 1048576) :
    Calls Try.prog 64 #[.slice A n c, .int .i64 left] w (GNum w (leftG left (n + sumH bs))) := by
  unfold maxLen at hn
  have HR := Lib.hid hr
  have HL := Lib.hid hr.len
  have HS := Lib.hid hs
  clear hr hs
  by_cases h : (n : Int) ≤ left
  · have h2 : 0 ≤ left - (n : Int) := by omega
    obtain ⟨z, hz⟩ : ∃ z, left - (n : Int) = z := ⟨_, rfl⟩
    have HZ := Lib.hid hz
    have h3 : z ≤ 1048576 := by omega
    rw [hz] at h2
    go_enter Try.func64, Try.ntmps64
    go_wp2
    clear hz
    go_loopw [1, 5] (fun t i wr => ∃ (j : Nat) (q : Int) (pre post : List HE), j ≤ n ∧ i = .int .i64 j ∧ t = .int .i64 q ∧ 0 ≤ q ∧ q ≤ 1048576 ∧ Hid (q = z - (sumH pre : Nat)) ∧ Hid (bs = pre ++ post) ∧ Hid (pre.length = j) ∧ Hid (Below w.heap.size w wr)) (fun _ i _ => n - (intOf i).toNat)
    case atStart => exact ⟨0, z, [], bs, Nat.zero_le _, rfl, rfl, h2, h3, Lib.hid (by simp [sumH]), Lib.hid rfl, Lib.hid rfl, Lib.hid (Below.refl _ _)⟩
    case round =>
      obtain ⟨j, q, pre, post, hj, rfl, rfl, hq0, hq1, hq, hes, hpl, hbel⟩ := hrel
      by_cases hlt : j < n
      · obtain ⟨e, post, rfl⟩ : ∃ e r, post = e :: r := by
          cases post with
          | nil => exfalso; have := congrArg List.length hes.out; have := HL.out; have := hpl.out; simp at *; omega
          | cons e r => exact ⟨e, r, rfl⟩
        obtain ⟨b, off, e0, rfl, hbw, he, hok, c0, c1, c2⟩ := HR.out.at_ hlt
        have he0 : e0 = e := by
          have h1 := he.out
          rw [hes.out, List.getElem?_append_right (by rw [hpl.out]; exact Nat.le_refl _), hpl.out, Nat.sub_self] at h1
          simpa using h1.symm
        subst he0
        have c0 := (hbel.out.cell (p := ⟨b, off + j * 3, none⟩) hbw).trans c0
        have c1 := (hbel.out.cell (p := ⟨b, off + j * 3 + 1, none⟩) hbw).trans c1
        have c2 := (hbel.out.cell (p := ⟨b, off + j * 3 + 2, none⟩) hbw).trans c2
        have C := Lib.hid (szShard_any e0.lo e0.hi e0.A e0.n e0.c q wr (HS.out e0 (by rw [hes.out]; simp)) hq0 hq1)
        have HSUM := Lib.hid (show sumH bs = sumH pre + e0.n + sumH post by rw [hes.out, sumH_append, sumH_cons]; omega)
        clear he hok
        by_cases hle : (e0.n : Int) ≤ q
        · rw [leftG_pos hle] at C
          have hp : 0 ≤ q - (e0.n : Int) := by omega
          obtain ⟨y, hy⟩ : ∃ y, q - (e0.n : Int) = y := ⟨_, rfl⟩
          have HY := Lib.hid hy
          have hy1 : y ≤ 1048576 := by omega
          rw [hy] at C hp
          clear hy hle
          go_wp2_with fail
          refine C.out.mono ?_
          rintro e1 w2 ⟨rfl, hb2⟩
          have HB := Lib.hid (g_chain hbel.out hb2)
          clear hb2
          go_wp2
          go_roundw
          case rel => exact ⟨j + 1, y, pre ++ [e0], post, by omega, by go_num, rfl, hp, hy1, Lib.hid (by rw [← HY.out, sumH_append, sumH_cons, hq.out]; simp [sumH]; omega), Lib.hid (by rw [hes.out]; simp), Lib.hid (by simp [hpl.out]), HB⟩
          case measure => simp [intOf]; omega
        · rw [leftG_neg (by omega)] at C
          have HV := Lib.hid (leftG_neg (left := left) (n := n + sumH bs) (by have := HSUM.out; have := hq.out; have := HZ.out; omega))
          clear hle
          go_wp2_with fail
          refine C.out.mono ?_
          rintro e1 w2 ⟨rfl, hb2⟩
          have HB := Lib.hid (g_chain hbel.out hb2)
          clear hb2
          go_wp2
          go_ret
          exact ⟨g_int HV.out.symm, HB.out⟩
      · have hpe : post = [] := by
          have h1 := congrArg List.length hes.out
          have h2 := HL.out
          have h3 := hpl.out
          rw [List.length_append] at h1
          exact List.eq_nil_of_length_eq_zero (by omega)
        subst hpe
        have hE := hes.out
        rw [List.append_nil] at hE
        have HV := Lib.hid (leftG_pos (left := left) (n := n + sumH bs) (by rw [hE]; have := hq.out; have := HZ.out; omega))
        have HQ := Lib.hid (show q = left - ((n + sumH bs : Nat) : Int) by rw [hE]; have := hq.out; have := HZ.out; omega)
        clear hE
        go_wp2
        go_ret
        exact ⟨g_int (by rw [HV.out]; exact HQ.out), hbel.out⟩
  · have HV := Lib.hid (leftG_neg (left := left) (n := n + sumH bs) (by omega))
    have h2 : left - (n : Int) < 0 := by omega
    go_enter Try.func64, Try.ntmps64
    go_wp2
    go_ret
    exact ⟨g_int HV.out.symm, Below.refl _ _⟩

def zeroH : HE := ⟨0, 0, none, 0, 0, []⟩
theorem repH_succ (n k : Nat) (h : k < n) : List.replicate (n - k) zeroH = zeroH :: List.replicate (n - (k + 1)) zeroH := by
  rw [show n - k = (n - (k + 1)) + 1 by omega, List.replicate_succ]
theorem he_lay3 {w : World} {lo ty g c n k : Nat} {made rest : List HE} {x e : HE} (h : w.ownsRow lo ty 3 (.slice (some ⟨g, 0, none⟩) n c) n ((made ++ x :: rest).flatMap HE.cells)) (hm : made.length = k) :
    (((w.setCell ⟨g, k * 3, none⟩ (.int .i64 e.lo)).setCell ⟨g, k * 3 + 1, none⟩ (.int .i64 e.hi)).setCell ⟨g, k * 3 + 2, none⟩ (.slice e.A e.n e.c)).ownsRow lo ty 3 (.slice (some ⟨g, 0, none⟩) n c) n ((made ++ e :: rest).flatMap HE.cells) ∧
      w.grownBy (((w.setCell ⟨g, k * 3, none⟩ (.int .i64 e.lo)).setCell ⟨g, k * 3 + 1, none⟩ (.int .i64 e.hi)).setCell ⟨g, k * 3 + 2, none⟩ (.slice e.A e.n e.c)) (some g) := by
  have h1 := h.stored (k * 3) (.int .i64 e.lo)
  have h2 := h1.1.stored (k * 3 + 1) (.int .i64 e.hi)
  have h3 := h2.1.stored (k * 3 + 2) (.slice e.A e.n e.c)
  have e1 := flat_set HE.cells 3 HE.cells_len (made ++ x :: rest) k 0 x ⟨e.lo, x.hi, x.A, x.n, x.c, x.es⟩ (.int .i64 e.lo) (g_get _ _ _ _ hm) (by omega) rfl
  rw [Nat.add_zero, g_set _ _ _ _ _ hm] at e1
  have e2 := flat_set HE.cells 3 HE.cells_len (made ++ ⟨e.lo, x.hi, x.A, x.n, x.c, x.es⟩ :: rest) k 1 ⟨e.lo, x.hi, x.A, x.n, x.c, x.es⟩ ⟨e.lo, e.hi, x.A, x.n, x.c, x.es⟩ (.int .i64 e.hi) (g_get _ _ _ _ hm) (by omega) rfl
  rw [g_set _ _ _ _ _ hm] at e2
  have e3 := flat_set HE.cells 3 HE.cells_len (made ++ ⟨e.lo, e.hi, x.A, x.n, x.c, x.es⟩ :: rest) k 2 ⟨e.lo, e.hi, x.A, x.n, x.c, x.es⟩ e (.slice e.A e.n e.c) (g_get _ _ _ _ hm) (by omega) rfl
  rw [g_set _ _ _ _ _ hm] at e3
  rw [e1, e2, e3] at h3
  exact ⟨h3.1, (h1.2.trans h2.2).trans h3.2⟩

set_option maxRecDepth 10000 in
set_option maxHeartbeats 2000000 in
theorem toHs_any (A : Option Addr) (n c : Nat) (bs : List HE) (w : World) (hr : SlH w A n bs) (hn : n ≤ 2097152) (hs : ∀ e ∈ bs, e.n ≤ 2097152) :
    Calls Try.prog 68 #[.slice A n c] w (MadeHs w (bs.map HE.sd)) := by
  obtain ⟨i0, hi, hz0, hz1, hz2⟩ := info_parts Try.infoShard
  have HR := Lib.hid hr
  have HL := Lib.hid hr.len
  have HS := Lib.hid hs
  clear hr hs
  go_enter Try.func68, Try.ntmps68
  go_wp2_with (refine wpList_make_full _ rfl (.tmp 6) (.tmp 6) 24 rfl w.heap.size 85 i0 (.agg #[.int .i64 0, .int .i64 0, .slice none 0 0]) 3 Try.underlying24 hi hz0 hz1 .i64 .i64 _ _ n rfl rfl rfl rfl (by rw [hz2]; omega) (by unfold maxLen; omega) (Nat.le_refl _) ?_; intro w1 hown hg)
  have hb1 : Below w.heap.size w w1 := (Below.refl _ _).grown hg (Nat.le_refl _) (by simp)
  have hown1 : w1.ownsRow w.heap.size 85 3 (.slice (some ⟨w.heap.size, 0, none⟩) n n) n (([] ++ List.replicate (n - 0) zeroH).flatMap HE.cells) := by
    have h := hown
    rw [g_rep HE.cells zeroH 3 HE.cells_len (by omega) (Value.agg #[.int .i64 0, .int .i64 0, .slice none 0 0]).cells rfl n] at h
    simpa using h
  clear hown hg
  have HO1 := Lib.hid hown1
  have HB1 := Lib.hid hb1
  clear hown1 hb1
  go_loopw [4] (fun i wr => ∃ (k : Nat) (made : List HE), k ≤ n ∧ i = .int .i64 k ∧ Hid (made.length = k) ∧ Hid (made.map HE.sd = (bs.take k).map HE.sd) ∧ Hid (wr.ownsRow w.heap.size 85 3 (.slice (some ⟨w.heap.size, 0, none⟩) n n) n ((made ++ List.replicate (n - k) zeroH).flatMap HE.cells)) ∧ Hid (OwnHL wr w.heap.size made) ∧ Hid (Below w.heap.size w wr)) (fun i _ => n - (intOf i).toNat)
  case atStart => exact ⟨0, [], Nat.zero_le _, rfl, Lib.hid rfl, Lib.hid (by simp), HO1, Lib.hid OwnHL.nil, HB1⟩
  case round =>
    clear HO1 HB1
    obtain ⟨k, made, hk, rfl, hml, hmap, hown, hdat, hbel⟩ := hrel
    by_cases hlt : k < n
    · obtain ⟨b, off, e, rfl, hbw, he, hok, c0, c1, c2⟩ := HR.out.at_ hlt
      have c0 := (hbel.out.cell (p := ⟨b, off + k * 3, none⟩) hbw).trans c0
      have c1 := (hbel.out.cell (p := ⟨b, off + k * 3 + 1, none⟩) hbw).trans c1
      have c2 := (hbel.out.cell (p := ⟨b, off + k * 3 + 2, none⟩) hbw).trans c2
      have C := Lib.hid (toShard_any e.lo e.hi e.A e.n e.c e.es wr (hok.out.rd.below hbel.out) (HS.out e (List.mem_of_getElem? he.out)))
      have HTK := Lib.hid (g_take bs k e he.out)
      have HEL := Lib.hid hok.out.rd.len
      clear he hok
      go_wp2_with fail
      refine C.out.mono ?_
      rintro e1 w2 ⟨A2, cc2, rfl, ho2, hb2⟩
      rw [HEL.out] at ho2 ⊢
      have HB2 := Lib.hid (g_chain hbel.out hb2)
      have hown2 := own_below hown.out hb2
      rw [repH_succ n k hlt] at hown2
      have hlay := he_lay3 (e := ⟨e.lo, e.hi, A2, e.n, cc2, e.es⟩) hown2 hml.out
      have HL2 := Lib.hid hlay
      have hq := fun i (hi : i < 3) => (hown2.cellAt (k * 3 + i) (by omega)).trans (flat_get HE.cells 3 HE.cells_len _ k i zeroH (g_get made (List.replicate (n - (k + 1)) zeroH) zeroH k hml.out) hi)
      have hc0 : w2.cell? ⟨w.heap.size, k * 3, none⟩ = some (.int .i64 0) := hq 0 (by omega)
      have hc1 : w2.cell? ⟨w.heap.size, k * 3 + 1, none⟩ = some (.int .i64 0) := hq 1 (by omega)
      have hc2 : w2.cell? ⟨w.heap.size, k * 3 + 2, none⟩ = some (.slice none 0 0) := hq 2 (by omega)
      have hf0 := hown2.frozenAt (k * 3)
      have hf1 := hown2.frozenAt (k * 3 + 1)
      have hf2 := hown2.frozenAt (k * 3 + 2)
      obtain ⟨cur, hg0⟩ := bat_block hown2
      have hone : OwnHL w2 wr.heap.size [⟨e.lo, e.hi, A2, e.n, cc2, e.es⟩] := OwnHL.one (d := ⟨e.lo, e.hi, A2, e.n, cc2, e.es⟩) ho2 HEL.out
      have hall := (hdat.out.below hb2).append (hone.mono hbel.out.size) (apartH_of_time hdat.out (Nat.le_refl _) hone (Nat.le_refl _))
      have HALL := Lib.hid (hall.kept hlay.2 (hall.far hg0 (by decide)))
      clear hown2 hlay hone hall ho2 hb2 hg0 hq
      go_wp2
      go_roundw
      case rel =>
        refine ⟨k + 1, made ++ [⟨e.lo, e.hi, A2, e.n, cc2, e.es⟩], by omega, by go_num, Lib.hid (by simp [hml.out]), Lib.hid (by rw [HTK.out, List.map_append, List.map_append, hmap.out]; rfl), Lib.hid ?_, HALL, Lib.hid (((HB2.out.setCell (Nat.le_refl _) _).setCell (Nat.le_refl _) _).setCell (Nat.le_refl _) _)⟩
        rw [List.append_assoc]
        exact HL2.out.1
      case measure => simp [intOf]; omega
    · obtain rfl : k = n := by omega
      go_wp2
      go_ret
      have hfin := hown.out
      rw [Nat.sub_self, List.replicate_zero, List.append_nil] at hfin
      exact ⟨_, _, _, made, rfl, ⟨hfin, hml.out, hdat.out⟩, by rw [hmap.out, List.take_of_length_le (by rw [HL.out]; exact Nat.le_refl _)], hbel.out⟩

/-! ### one that came in -/
/-- What a walk is told of a list of shards that came in. -/
structure HsIn (w : World) (A : Option Addr) (n c : Nat) (bs : List HE) : Prop where
  g : SlH w A n bs
  l : n ≤ maxLen
  e : ∀ e ∈ bs, e.n ≤ maxLen
  w : ∀ e ∈ bs, (Lit.int .i64 e.lo).wf = true ∧ (Lit.int .i64 e.hi).wf = true ∧ ∀ x ∈ e.es, KeIn x
section
variable {H : Type} {enc : TypeId × Value → H} {w : World} {base : Nat} {spare : Nat → Bool} {held : Bool}
theorem RdR.he {a b : Nat} {w : World} {cs : List Value} {d : shardSh.D} (h : RdR a b w shardSh cs d) (hh : b ≤ w.heap.size) : ∃ e : HE, cs = e.cells ∧ (e.Ok w ∧ e.n ≤ maxLen ∧ (Lit.int .i64 e.lo).wf = true ∧ (Lit.int .i64 e.hi).wf = true ∧ ∀ x ∈ e.es, KeIn x) := by
  obtain ⟨lo, hi, A, n, c, es, he, h1⟩ := RdR.shard h hh
  exact ⟨⟨lo, hi, A, n, c, es⟩, he, ⟨h1.g, h1.c⟩, h1.l, h1.lo, h1.hi, h1.e⟩
theorem opensHs : Opens enc Try.prog w base spare held 44 (.sl shardSh) := opens_sl Try.underlying44 Try.cellsShard (by decide) opensShard
theorem RdR.hes {lo hi : Nat} {w : World} {cs : List Value} {ds : List shardSh.D} (h : RdR lo hi w (.sl shardSh) cs ds) (hh : hi ≤ w.heap.size) : ∃ A n c bs, cs = [.slice A n c] ∧ HsIn w A n c bs := by
  obtain ⟨A, n, c, e1, e2, e3, e4, h⟩ := h
  rcases Nat.eq_zero_or_pos n with h0 | h0
  · subst h0
    exact ⟨A, 0, c, [], e1, ⟨rfl, ⟨rfl, fun h => by omega⟩, by simp⟩, by omega, by simp, by simp⟩
  · obtain ⟨b, off, eA, _, hb, hall⟩ := h h0
    obtain ⟨bs, h1, h2, h3⟩ := g_build HE.cells 3 HE.cells_len (fun e => e.Ok w ∧ e.n ≤ maxLen ∧ (Lit.int .i64 e.lo).wf = true ∧ (Lit.int .i64 e.hi).wf = true ∧ ∀ x ∈ e.es, KeIn x) w b off n (fun j hj => by
      have hjl : j < ds.length := by omega
      obtain ⟨cs, _, hc, hr⟩ := hall j (ds[j]'hjl) (List.getElem?_eq_getElem hjl)
      obtain ⟨e, rfl, he⟩ := RdR.he hr hh
      exact ⟨e, he, hc⟩)
    exact ⟨A, n, c, bs, e1, ⟨h1, ⟨by rw [flat_len _ 3 HE.cells_len, h1], fun _ => ⟨b, off, eA, by omega, h2⟩⟩, fun e he => (h3 e he).1⟩, by omega, fun e he => (h3 e he).2.1, fun e he => (h3 e he).2.2⟩
set_option maxRecDepth 100000 in
theorem open_hs {r : Reach} {b0 : Nat} {v : Value} {d : DataW H} {p : List MemPlace} (hv : Value.okWide Try.prog w r b0 44 v) (h : DataW.Trod enc Try.prog w base spare held 44 v d p) :
    ∃ A n c bs, v = .slice A n c ∧ HsIn w A n c bs := by
  obtain ⟨a, len, cap, rfl⟩ := Go.WideShapes.okWide_slice Try.underlying44 hv
  obtain ⟨fuel, hf⟩ := h
  obtain ⟨x, hx⟩ := opensHs _ _ _ hf
  obtain ⟨A, n, c, bs, he, hi⟩ := RdR.hes hx (Nat.le_refl _)
  have h9 : [Value.slice a len cap] = [.slice A n c] := by simpa [Value.cells] using he
  injection h9 with h9
  exact ⟨A, n, c, bs, h9, hi⟩
end
end Go.Proofs.Ytpgnappddddlpaa
namespace Go.Proofs.Ytpgnappddddlpaa
open Go.RowKit

theorem eqK_any (e : KE) (w : World) :
    Calls Try.prog 156 #[.agg #[.int .i64 e.f, .int .i64 e.t, .int .i64 e.w, .int .i64 e.i, .int .i64 e.v], .agg #[.int .i64 e.f, .int .i64 e.t, .int .i64 e.w, .int .i64 e.i, .int .i64 e.v]] w (GTell w true) := by
  go_enter Try.func156, Try.ntmps156
  go_wp2
  go_ret
  exact ⟨rfl, below_a2 _ _ _⟩

set_option maxRecDepth 10000 in
set_option maxHeartbeats 1000000 in
theorem eqKs_any (A B : Option Addr) (n c d : Nat) (es : List KE) (w : World) (ha : SlK w A n es) (hb : SlK w B n es) (hn : n ≤ 2097152) :
    Calls Try.prog 150 #[.slice A n c, .slice B n d] w (GTell w true) := by
  have HA := Lib.hid ha
  have HB := Lib.hid hb
  have CE := Lib.hid (fun e W => eqK_any e W)
  clear ha hb
  go_enter Try.func150, Try.ntmps150
  go_wp2
  go_loopw [5] (fun i wr => ∃ k : Nat, k ≤ n ∧ i = .int .i64 k ∧ Hid (Below w.heap.size w wr)) (fun i _ => n - (intOf i).toNat)
  case atStart => exact ⟨0, Nat.zero_le _, rfl, Lib.hid (Below.refl _ _)⟩
  case round =>
    obtain ⟨k, hk, rfl, hbel⟩ := hrel
    by_cases hlt : k < n
    · obtain ⟨b, off, e, rfl, hbw, he, c0, c1, c2, c3, c4⟩ := HA.out.at_ hlt
      obtain ⟨b', off', e', rfl, hbw', he', c0', c1', c2', c3', c4'⟩ := HB.out.at_ hlt
      have hee : e' = e := by have h1 := he.out; rw [he'.out] at h1; injection h1
      subst hee
      have c0 := (hbel.out.cell (p := ⟨b, off + k * 5, none⟩) hbw).trans c0
      have c1 := (hbel.out.cell (p := ⟨b, off + k * 5 + 1, none⟩) hbw).trans c1
      have c2 := (hbel.out.cell (p := ⟨b, off + k * 5 + 2, none⟩) hbw).trans c2
      have c3 := (hbel.out.cell (p := ⟨b, off + k * 5 + 3, none⟩) hbw).trans c3
      have c4 := (hbel.out.cell (p := ⟨b, off + k * 5 + 4, none⟩) hbw).trans c4
      have c0' := (hbel.out.cell (p := ⟨b', off' + k * 5, none⟩) hbw').trans c0'
      have c1' := (hbel.out.cell (p := ⟨b', off' + k * 5 + 1, none⟩) hbw').trans c1'
      have c2' := (hbel.out.cell (p := ⟨b', off' + k * 5 + 2, none⟩) hbw').trans c2'
      have c3' := (hbel.out.cell (p := ⟨b', off' + k * 5 + 3, none⟩) hbw').trans c3'
      have c4' := (hbel.out.cell (p := ⟨b', off' + k * 5 + 4, none⟩) hbw').trans c4'
      clear he he'
      go_wp2
      go_region_with (go_at_call 156; ((with_reducible refine (CE.out e' _).mono ?_)); rintro e1 w1 ⟨rfl, hb1⟩)
      all_goals
        go_wp2
        go_roundw
        case rel => exact ⟨k + 1, by omega, by go_num, Lib.hid (by first | exact g_chain hbel.out hb1 | exact g_chain hbel.out.drew hb1 | exact (g_chain hbel.out.drew hb1).drew)⟩
        case measure => simp [intOf]; omega
    · go_wp2
      go_ret
      exact ⟨rfl, hbel.out⟩
theorem eqShard_any (lo hi : Int) (A B : Option Addr) (n c d : Nat) (es : List KE) (w : World) (ha : SlK w A n es) (hb : SlK w B n es) (hn : n ≤ 2097152) :
    Calls Try.prog 117 #[.agg #[.int .i64 lo, .int .i64 hi, .slice A n c], .agg #[.int .i64 lo, .int .i64 hi, .slice B n d]] w (GTell w true) := by
  have CE := Lib.hid (fun W (h : Below w.heap.size w W) => eqKs_any A B n c d es W (ha.below h) (hb.below h) hn)
  clear ha hb
  go_enter Try.func117, Try.ntmps117
  go_wp2_with fail
  refine (CE.out _ (below_a2 _ _ _)).mono ?_
  rintro e w1 ⟨rfl, hb1⟩
  go_wp2
  go_ret
  exact ⟨rfl, g_chain (below_a2 _ _ _) hb1⟩
end Go.Proofs.Ytpgnappddddlpaa
namespace Go.Proofs.Ytpgnappddddlpaa
open Go.RowKit

set_option maxRecDepth 10000 in
set_option maxHeartbeats 2000000 in
theorem eqHs_any (A B : Option Addr) (n c d : Nat) (bs bs' : List HE) (w : World) (ha : SlH w A n bs) (hb : SlH w B n bs') (hx : bs.map HE.sd = bs'.map HE.sd) (hn : n ≤ 2097152) (hs : ∀ e ∈ bs, e.n ≤ 2097152) :
    Calls Try.prog 69 #[.slice A n c, .slice B n d] w (GTell w true) := by
  have HA := Lib.hid ha
  have HB := Lib.hid hb
  have HX := Lib.hid hx
  have HS := Lib.hid hs
  clear ha hb hx hs
  go_enter Try.func69, Try.ntmps69
  go_wp2
  go_loopw [5] (fun i wr => ∃ k : Nat, k ≤ n ∧ i = .int .i64 k ∧ Hid (Below w.heap.size w wr)) (fun i _ => n - (intOf i).toNat)
  case atStart => exact ⟨0, Nat.zero_le _, rfl, Lib.hid (Below.refl _ _)⟩
  case round =>
    obtain ⟨k, hk, rfl, hbel⟩ := hrel
    by_cases hlt : k < n
    · obtain ⟨b, off, e, rfl, hbw, he, hok, c0, c1, c2⟩ := HA.out.at_ hlt
      obtain ⟨b', off', e', rfl, hbw', he', hok', c0', c1', c2'⟩ := HB.out.at_ hlt
      have c0 := (hbel.out.cell (p := ⟨b, off + k * 3, none⟩) hbw).trans c0
      have c1 := (hbel.out.cell (p := ⟨b, off + k * 3 + 1, none⟩) hbw).trans c1
      have c2 := (hbel.out.cell (p := ⟨b, off + k * 3 + 2, none⟩) hbw).trans c2
      have c0' := (hbel.out.cell (p := ⟨b', off' + k * 3, none⟩) hbw').trans c0'
      have c1' := (hbel.out.cell (p := ⟨b', off' + k * 3 + 1, none⟩) hbw').trans c1'
      have c2' := (hbel.out.cell (p := ⟨b', off' + k * 3 + 2, none⟩) hbw').trans c2'
      have hsd := bat_map_at HX.out he.out he'.out
      obtain ⟨h1, h2, hee⟩ : e'.lo = e.lo ∧ e'.hi = e.hi ∧ e.es = e'.es := by
        unfold HE.sd at hsd
        injection hsd with q1 q2
        injection q2 with q2 q3
        exact ⟨q1.symm, q2.symm, q3⟩
      have hnn : e'.n = e.n := by rw [← hok.out.rd.len, ← hok'.out.rd.len, hee]
      rw [h1] at c0'
      rw [h2] at c1'
      rw [hnn] at c2'
      have hrd' := hok'.out.rd
      rw [hnn, ← hee] at hrd'
      have HC := Lib.hid (fun W (h : Below w.heap.size w W) => eqShard_any e.lo e.hi e.A e'.A e.n e.c e'.c e.es W (hok.out.rd.below h) (hrd'.below h) (HS.out e (List.mem_of_getElem? he.out)))
      have HBL := Lib.hid hbel.out.drew
      clear hee hnn hrd' hbel hsd h1 h2 he he' hok hok'
      go_wp2_with fail
      refine wp_region_still_tail 8 (by kernel_rfl) (by kernel_rfl) ?_
      simp only [List.take_succ_cons, List.take_zero, List.drop_succ_cons, List.drop_zero]
      change wpStill _ _ (World.drew _) _ _ _
      repeat still_step
      refine wpStill_nil ?_
      change wpList _ _ _ _ _ (World.drew _)
      clear c0 c0' c1 c1' c2 c2'
      generalize World.drew wr = W at *
      go_wp2_with fail
      refine (HC.out _ HBL.out).mono ?_
      rintro e1 w1 ⟨rfl, hb1⟩
      have HB1 := Lib.hid (g_chain HBL.out hb1)
      clear hb1
      go_wp2
      go_roundw
      case rel => exact ⟨k + 1, by omega, by go_num, HB1⟩
      case measure => simp [intOf]; omega
    · go_wp2
      go_ret
      exact ⟨rfl, hbel.out⟩
end Go.Proofs.Ytpgnappddddlpaa
