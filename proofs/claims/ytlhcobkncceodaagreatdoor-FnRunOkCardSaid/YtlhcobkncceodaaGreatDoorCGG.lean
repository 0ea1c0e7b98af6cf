/- Slices of numbers as arguments of the laws: the helper that copies one into new memory; the opening of one that came in. Condition: at most 2^21 numbers. // The contract of the model's l10Told: the labels that the views tell. Conditions: at most 2^20 views, their values in their limits. // The contract of the model's l10Most. Condition: at most 2^21 labels. -/
import Derived.Test.YtlhcobkncceodaaGreatDoorCGF
import Derived.Test.YtlhcobkncceodaaGreatDoorCGD
import Derived.Test.YtlhcobkncceodaaGreatDoorCGE
import Derived.Test.YtlhcobkncceodaaGreatDoorCGA
namespace Go.Proofs.YtlhcobkncceodaaGreatDoor
open Go.RowKit

/-- The first k cells are those of xs, the rest nought. -/
def halfI (xs : List Int) (k : Nat) : List Int := xs.take k ++ List.replicate (xs.length - k) 0
theorem halfI_zero (xs : List Int) : halfI xs 0 = List.replicate xs.length 0 := by simp [halfI]
theorem halfI_full (xs : List Int) : halfI xs xs.length = xs := by simp [halfI]
theorem halfI_step (xs : List Int) (k : Nat) (x : Int) (h : xs[k]? = some x) : (vi (halfI xs k)).set k (.int .i64 x) = vi (halfI xs (k + 1)) := by
  have hk : k < xs.length := (List.getElem?_eq_some_iff.1 h).1
  have hx : xs[k] = x := (List.getElem?_eq_some_iff.1 h).2
  have : (halfI xs k).set k x = halfI xs (k + 1) := by
    unfold halfI
    rw [List.set_append_right _ _ (by simp; omega), List.take_succ_eq_append_getElem hk, List.append_assoc]
    congr 1
    rw [List.length_take, Nat.min_eq_left (by omega), Nat.sub_self, show xs.length - k = (xs.length - (k + 1)) + 1 by omega, List.replicate_succ]
    simp [hx]
  rw [← this]
  simp [vi, List.map_set]

def MadeN (w : World) (n : Nat) (xs : List Int) (e : Ending) (w' : World) : Prop :=
  ∃ A c, e = .returned (.slice A n c) ∧ OwI w' w.heap.size A n c xs ∧ Below w.heap.size w w'

/-! ### one that came in -/
def NumIn (x : Int) : Prop := (Lit.int .i64 x).wf = true
/-- What a walk is told of a slice of numbers that came in. -/
structure IntsIn (w : World) (A : Option Addr) (n c : Nat) (xs : List Int) : Prop where
  g : SlI w A n xs
  l : n ≤ maxLen
  c : n ≤ c
  e : ∀ x ∈ xs, NumIn x
theorem flat_vi (xs : List Int) : xs.flatMap (fun x : Int => [Value.int .i64 x]) = vi xs := flat_one xs
theorem RdR.nums {lo hi : Nat} {w : World} {cs : List Value} {ds : List Int} (h : RdR lo hi w (.sl (.int .i64)) cs ds) (hh : hi ≤ w.heap.size) : ∃ A n c xs, cs = [.slice A n c] ∧ IntsIn w A n c xs := by
  obtain ⟨A, n, c, e1, e2, e3, e4, h⟩ := h
  rcases Nat.eq_zero_or_pos n with h0 | h0
  · subst h0
    exact ⟨A, 0, c, [], e1, ⟨SlI.nil, by omega, e3, by simp⟩⟩
  · obtain ⟨b, off, eA, _, hb, hall⟩ := h h0
    obtain ⟨xs, h1, h2, h3⟩ := g_build (fun x : Int => [Value.int .i64 x]) 1 (fun _ => rfl) NumIn w b off n (fun j hj => by
      have e5 : List.length (α := Int) ds = n := e2
      have hjl : j < List.length (α := Int) ds := by omega
      obtain ⟨cs, _, hc, hr⟩ := hall j (ds[j]'hjl) (List.getElem?_eq_getElem hjl)
      obtain ⟨rfl, hwf⟩ := hr
      exact ⟨_, hwf, hc⟩)
    rw [flat_vi] at h2
    exact ⟨A, n, c, xs, e1, ⟨⟨h1, ⟨by rw [vi_len, h1, Nat.mul_one], fun _ => ⟨b, off, eA, by omega, h2⟩⟩⟩, by omega, e3, h3⟩⟩

section
variable {H : Type} {enc : TypeId × Value → H} {w : World} {base : Nat} {spare : Nat → Bool} {held : Bool}
theorem opensNums : Opens enc Tryz.prog w base spare held 28 (.sl (.int .i64)) := opens_sl Tryz.underlying28 Tryz.cellsGi (by decide) (opens_int Tryz.underlying3)
set_option maxRecDepth 100000 in
theorem open_ints {r : Reach} {b0 : Nat} {v : Value} {d : DataW H} {p : List MemPlace} (hv : Value.okWide Tryz.prog w r b0 28 v) (h : DataW.Trod enc Tryz.prog w base spare held 28 v d p) :
    ∃ A n c xs, v = .slice A n c ∧ IntsIn w A n c xs := by
  obtain ⟨a, len, cap, rfl⟩ := Go.WideShapes.okWide_slice Tryz.underlying28 hv
  obtain ⟨fuel, hf⟩ := h
  obtain ⟨x, hx⟩ := opensNums _ _ _ hf
  obtain ⟨A, n, c, xs, he, hi⟩ := RdR.nums hx (Nat.le_refl _)
  have h9 : [Value.slice a len cap] = [.slice A n c] := by simpa [Value.cells] using he
  injection h9 with h9
  exact ⟨A, n, c, xs, h9, hi⟩
end
end Go.Proofs.YtlhcobkncceodaaGreatDoor
namespace Go.Proofs.YtlhcobkncceodaaGreatDoor
open Go.RowKit

set_option maxRecDepth 10000 in
set_option maxHeartbeats 4000000 in
theorem specTold (A : Option Addr) (n c : Nat) (es : List VE) (w : World) (hr : SlV w A n es) (hn : n ≤ 1048576) (hv : ∀ e ∈ es, 0 ≤ e.v ∧ e.v ≤ 1099511627776) :
    Calls Tryz.prog 140 #[.slice A n c] w (MadeZ w (told es)) := by
  obtain ⟨i0, hi, hz0, hz1, hz2⟩ := info_parts Tryz.infoInt
  have HR := Lib.hid hr
  have HL := Lib.hid hr.len
  have HV := Lib.hid hv
  clear hr hv
  go_enter Tryz.func140, Tryz.ntmps140
  go_wp2
  go_loopw [3, 9] (fun o i wr => ∃ (k : Nat) (A1 : Option Addr) (c1 : Nat), k ≤ n ∧ i = .int .i64 (k : Int) ∧ o = .slice A1 (told (es.take k)).length c1 ∧ Hid (wr.ownsRow w.heap.size 3 1 (.slice A1 (told (es.take k)).length c1) (told (es.take k)).length (vi (told (es.take k)))) ∧ Hid (Below w.heap.size w wr)) (fun _ i _ => n - (intOf i).toNat)
  case atStart => exact ⟨0, some ⟨w.heap.size, 0, none⟩, 0, Nat.zero_le _, rfl, rfl, Lib.hid (lab_built w), Lib.hid (below_a1 _ _)⟩
  case round =>
    obtain ⟨k, A1, c1, hk, rfl, rfl, hown, hbel⟩ := hrel
    have hlen := told_len (es.take k)
    rw [List.length_take] at hlen
    obtain ⟨ms, HMS⟩ : ∃ ms, Hid (told (es.take k) = ms) := ⟨_, Lib.hid rfl⟩
    rw [HMS.out] at hown hlen
    rw [HMS.out]
    by_cases hlt : k < n
    · have hml : ms.length ≤ 2097152 := by omega
      clear hlen
      obtain ⟨b, off, e, rfl, hbw, he, c0, c1', c2, c3⟩ := HR.out.at_ hlt
      have c0 := (hbel.out.cell (p := ⟨b, off + k * 4, none⟩) hbw).trans c0
      have c1' := (hbel.out.cell (p := ⟨b, off + k * 4 + 1, none⟩) hbw).trans c1'
      have c2 := (hbel.out.cell (p := ⟨b, off + k * 4 + 2, none⟩) hbw).trans c2
      have c3 := (hbel.out.cell (p := ⟨b, off + k * 4 + 3, none⟩) hbw).trans c3
      have HN := Lib.hid (told_snoc he.out)
      obtain ⟨q, r, hq, hr, hq1, hr1⟩ := lab_parts (HV.out e (List.mem_of_getElem? he.out))
      have hq2 : IntKind.i64.wrap q = q := IntWalk.i64_in _ (by omega)
      have hd : IntKind.i64.wrap (Int.tdiv e.v 1000) = q := by rw [hq]; exact hq2
      cases hi9 : e.i with
      | true =>
        cases ho9 : e.o with
        | true =>
          rw [hi9] at c0
          rw [ho9] at c1'
          have HE : Hid (told (es.take (k + 1)) = ms ++ [q] ++ [r]) := Lib.hid (by rw [HN.out]; unfold VE.labs; rw [hi9, ho9, hq, hr]; simp only [HMS.out]; simp)
          have OV := Lib.hid (own_below hown.out (below_a1 wr (.cells #[.bool true, .bool true, .int .i64 e.w, .int .i64 e.v] 93)))
          have BV := Lib.hid (g_chain hbel.out (below_a1 wr (.cells #[.bool true, .bool true, .int .i64 e.w, .int .i64 e.v] 93)))
          have XV := Lib.hid (Blk.new wr #[.bool true, .bool true, .int .i64 e.w, .int .i64 e.v] 93)
          have hlo := hbel.out.size
          clear hi9 ho9
          have Opx := Lib.hid (OV.out.alloc (.cells #[.int .i64 q] 3))
          go_wp2_with (at_builtin; refine wpList_append_any _ rfl (.tmp 15) (.tmp 19) _ rfl w.heap.size 3 i0 _ 1 8 Tryz.underlying28 hi hz0 hz1 hz2 rfl (by omega) (.slice A1 ms.length c1) ms.length (vi ms) rfl Opx.out ((wr.heap.size + 1) + 1) (some ⟨(wr.heap.size + 1), 0, none⟩) 1 1 [.int .i64 q] rfl (lab_reads _ _ _ _ (by simp)) (lab_one _) (by simp only [maxLen]; omega) (by omega) (by simp; omega) ?_)
          intro vp wp hownp hgp _
          obtain ⟨A1p, c1p, rfl⟩ := lab_form hownp
          obtain ⟨msp, HMp⟩ : ∃ l, Hid (l = ms ++ [q]) := ⟨_, Lib.hid rfl⟩
          have hlep : ms.length + 1 = msp.length := by rw [HMp.out]; simp
          have Op : Hid (wp.ownsRow w.heap.size 3 1 (.slice A1p msp.length c1p) msp.length (vi msp)) := Lib.hid (by rw [HMp.out, lab_snoc, List.length_append]; exact hownp)
          have Bp : Hid (Below w.heap.size w wp) := Lib.hid (lab_below (g_chain BV.out (below_a1 _ _)) Opx.out (by have := (BV.out).size; simp; omega) hgp)
          have hlop := Bp.out.size
          have XP := Lib.hid ((XV.out.alloc (.cells #[.int .i64 q] 3)).grown hgp (lab_ne hown.out (Nat.le_refl _)))
          have hx1 := XP.out.cell (i := 1) rfl
          have hx3 := XP.out.cell (i := 3) rfl
          clear hownp hgp OV BV
          rw [hlep]
          have Ozx := Lib.hid (Op.out.alloc (.cells #[.int .i64 r] 3))
          go_wp2_with (at_builtin; refine wpList_append_any _ rfl (.tmp 23) (.tmp 27) _ rfl w.heap.size 3 i0 _ 1 8 Tryz.underlying28 hi hz0 hz1 hz2 rfl (by omega) (.slice A1p msp.length c1p) msp.length (vi msp) rfl Ozx.out (wp.heap.size + 1) (some ⟨wp.heap.size, 0, none⟩) 1 1 [.int .i64 r] rfl (lab_reads _ _ _ _ (by simp)) (lab_one _) (by simp only [maxLen]; omega) (by omega) (by simp; omega) ?_)
          intro vz wz hownz hgz _
          obtain ⟨A1z, c1z, rfl⟩ := lab_form hownz
          obtain ⟨msz, HMz⟩ : ∃ l, Hid (l = msp ++ [r]) := ⟨_, Lib.hid rfl⟩
          have hlez : msp.length + 1 = msz.length := by rw [HMz.out]; simp
          have Oz : Hid (wz.ownsRow w.heap.size 3 1 (.slice A1z msz.length c1z) msz.length (vi msz)) := Lib.hid (by rw [HMz.out, lab_snoc, List.length_append]; exact hownz)
          have Bz : Hid (Below w.heap.size w wz) := Lib.hid (lab_below (g_chain Bp.out (below_a1 _ _)) Ozx.out (by have := (Bp.out).size; simp; omega) hgz)
          have hloz := Bz.out.size
          clear hownz hgz
          rw [hlez]
          go_wp2
          go_roundw
          case rel => exact ⟨k + 1, A1z, c1z, by omega, by go_num, by rw [HE.out, ← HMp.out, ← HMz.out], Lib.hid (by rw [HE.out, ← HMp.out, ← HMz.out]; exact Oz.out), Bz⟩
          case measure => simp [intOf]; omega
        | false =>
          rw [hi9] at c0
          rw [ho9] at c1'
          have HE : Hid (told (es.take (k + 1)) = ms ++ [q]) := Lib.hid (by rw [HN.out]; unfold VE.labs; rw [hi9, ho9, hq, hr]; simp only [HMS.out]; simp)
          have OV := Lib.hid (own_below hown.out (below_a1 wr (.cells #[.bool true, .bool false, .int .i64 e.w, .int .i64 e.v] 93)))
          have BV := Lib.hid (g_chain hbel.out (below_a1 wr (.cells #[.bool true, .bool false, .int .i64 e.w, .int .i64 e.v] 93)))
          have XV := Lib.hid (Blk.new wr #[.bool true, .bool false, .int .i64 e.w, .int .i64 e.v] 93)
          have hlo := hbel.out.size
          clear hi9 ho9
          have Opx := Lib.hid (OV.out.alloc (.cells #[.int .i64 q] 3))
          go_wp2_with (at_builtin; refine wpList_append_any _ rfl (.tmp 15) (.tmp 19) _ rfl w.heap.size 3 i0 _ 1 8 Tryz.underlying28 hi hz0 hz1 hz2 rfl (by omega) (.slice A1 ms.length c1) ms.length (vi ms) rfl Opx.out ((wr.heap.size + 1) + 1) (some ⟨(wr.heap.size + 1), 0, none⟩) 1 1 [.int .i64 q] rfl (lab_reads _ _ _ _ (by simp)) (lab_one _) (by simp only [maxLen]; omega) (by omega) (by simp; omega) ?_)
          intro vp wp hownp hgp _
          obtain ⟨A1p, c1p, rfl⟩ := lab_form hownp
          obtain ⟨msp, HMp⟩ : ∃ l, Hid (l = ms ++ [q]) := ⟨_, Lib.hid rfl⟩
          have hlep : ms.length + 1 = msp.length := by rw [HMp.out]; simp
          have Op : Hid (wp.ownsRow w.heap.size 3 1 (.slice A1p msp.length c1p) msp.length (vi msp)) := Lib.hid (by rw [HMp.out, lab_snoc, List.length_append]; exact hownp)
          have Bp : Hid (Below w.heap.size w wp) := Lib.hid (lab_below (g_chain BV.out (below_a1 _ _)) Opx.out (by have := (BV.out).size; simp; omega) hgp)
          have hlop := Bp.out.size
          have XP := Lib.hid ((XV.out.alloc (.cells #[.int .i64 q] 3)).grown hgp (lab_ne hown.out (Nat.le_refl _)))
          have hx1 := XP.out.cell (i := 1) rfl
          have hx3 := XP.out.cell (i := 3) rfl
          clear hownp hgp OV BV
          rw [hlep]
          go_wp2
          go_roundw
          case rel => exact ⟨k + 1, A1p, c1p, by omega, by go_num, by rw [HE.out, ← HMp.out], Lib.hid (by rw [HE.out, ← HMp.out]; exact Op.out), Bp⟩
          case measure => simp [intOf]; omega
      | false =>
        cases ho9 : e.o with
        | true =>
          rw [hi9] at c0
          rw [ho9] at c1'
          have HE : Hid (told (es.take (k + 1)) = ms ++ [r]) := Lib.hid (by rw [HN.out]; unfold VE.labs; rw [hi9, ho9, hq, hr]; simp only [HMS.out]; simp)
          have OV := Lib.hid (own_below hown.out (below_a1 wr (.cells #[.bool false, .bool true, .int .i64 e.w, .int .i64 e.v] 93)))
          have BV := Lib.hid (g_chain hbel.out (below_a1 wr (.cells #[.bool false, .bool true, .int .i64 e.w, .int .i64 e.v] 93)))
          have XV := Lib.hid (Blk.new wr #[.bool false, .bool true, .int .i64 e.w, .int .i64 e.v] 93)
          have hlo := hbel.out.size
          clear hi9 ho9
          have Ozx := Lib.hid (OV.out.alloc (.cells #[.int .i64 r] 3))
          go_wp2_with (at_builtin; refine wpList_append_any _ rfl (.tmp 23) (.tmp 27) _ rfl w.heap.size 3 i0 _ 1 8 Tryz.underlying28 hi hz0 hz1 hz2 rfl (by omega) (.slice A1 ms.length c1) ms.length (vi ms) rfl Ozx.out ((wr.heap.size + 1) + 1) (some ⟨(wr.heap.size + 1), 0, none⟩) 1 1 [.int .i64 r] rfl (lab_reads _ _ _ _ (by simp)) (lab_one _) (by simp only [maxLen]; omega) (by omega) (by simp; omega) ?_)
          intro vz wz hownz hgz _
          obtain ⟨A1z, c1z, rfl⟩ := lab_form hownz
          obtain ⟨msz, HMz⟩ : ∃ l, Hid (l = ms ++ [r]) := ⟨_, Lib.hid rfl⟩
          have hlez : ms.length + 1 = msz.length := by rw [HMz.out]; simp
          have Oz : Hid (wz.ownsRow w.heap.size 3 1 (.slice A1z msz.length c1z) msz.length (vi msz)) := Lib.hid (by rw [HMz.out, lab_snoc, List.length_append]; exact hownz)
          have Bz : Hid (Below w.heap.size w wz) := Lib.hid (lab_below (g_chain BV.out (below_a1 _ _)) Ozx.out (by have := (BV.out).size; simp; omega) hgz)
          have hloz := Bz.out.size
          clear hownz hgz
          rw [hlez]
          go_wp2
          go_roundw
          case rel => exact ⟨k + 1, A1z, c1z, by omega, by go_num, by rw [HE.out, ← HMz.out], Lib.hid (by rw [HE.out, ← HMz.out]; exact Oz.out), Bz⟩
          case measure => simp [intOf]; omega
        | false =>
          rw [hi9] at c0
          rw [ho9] at c1'
          have HE : Hid (told (es.take (k + 1)) = ms) := Lib.hid (by rw [HN.out]; unfold VE.labs; rw [hi9, ho9, hq, hr]; simp only [HMS.out]; simp)
          have OV := Lib.hid (own_below hown.out (below_a1 wr (.cells #[.bool false, .bool false, .int .i64 e.w, .int .i64 e.v] 93)))
          have BV := Lib.hid (g_chain hbel.out (below_a1 wr (.cells #[.bool false, .bool false, .int .i64 e.w, .int .i64 e.v] 93)))
          have XV := Lib.hid (Blk.new wr #[.bool false, .bool false, .int .i64 e.w, .int .i64 e.v] 93)
          have hlo := hbel.out.size
          clear hi9 ho9
          go_wp2
          go_roundw
          case rel => exact ⟨k + 1, A1, c1, by omega, by go_num, by rw [HE.out], Lib.hid (by rw [HE.out]; exact OV.out), BV⟩
          case measure => simp [intOf]; omega
    · obtain rfl : k = n := by omega
      have HT : Hid (ms = told es) := Lib.hid (by rw [← HMS.out, List.take_of_length_le (by rw [HL.out]; exact Nat.le_refl _)])
      go_wp2
      go_ret
      rw [HT.out] at hown
      exact ⟨A1, c1, by rw [HT.out]; first | rfl | simp, hown.out, hbel.out⟩
end Go.Proofs.YtlhcobkncceodaaGreatDoor
namespace Go.Proofs.YtlhcobkncceodaaGreatDoor
open Go.RowKit

def mostQ (T : List Int) (x : Int) (k : Nat) : Int × Nat := (T.take k).foldl (mostStep T) (x, 0)
theorem mostQ_next {T : List Int} {x a : Int} {k : Nat} (h : T[k]? = some a) : mostQ T x (k + 1) = mostStep T (mostQ T x k) a := by
  unfold mostQ
  rw [take_snoc h, List.foldl_append]
  rfl
theorem mostQ_all (T : List Int) (x : Int) : (mostQ T x T.length).1 = mostR T x := by
  unfold mostQ mostR
  rw [List.take_length]
theorem mostQ_le (T : List Int) (x : Int) (k : Nat) : (mostQ T x k).2 ≤ T.length := by
  unfold mostQ
  suffices H : ∀ (R : List Int) (q : Int × Nat), q.2 ≤ T.length → (R.foldl (mostStep T) q).2 ≤ T.length from H _ _ (by simp)
  intro R
  induction R with
  | nil => intro q h; exact h
  | cons a R ih =>
    intro q h
    rw [List.foldl_cons]
    refine ih _ ?_
    unfold mostStep
    split
    · exact List.count_le_length
    · exact h
theorem count_next {T : List Int} {a z : Int} {j : Nat} (h : T[j]? = some z) : (T.take (j + 1)).count a = (T.take j).count a + if a = z then 1 else 0 := by
  rw [take_snoc h, count_snoc]
  by_cases hz : z = a
  · rw [if_pos hz, if_pos hz.symm]
  · rw [if_neg hz, if_neg (fun e => hz e.symm)]
set_option maxRecDepth 10000 in
set_option maxHeartbeats 4000000 in
theorem specMost (A : Option Addr) (n c : Nat) (zs : List Int) (x : Int) (w : World) (hr : SlI w A n zs) (hn : n ≤ 2097152) :
    Calls Tryz.prog 139 #[.slice A n c, .int .i64 x] w (fun e w' => e = .returned (.int .i64 (mostR zs x)) ∧ w' = w) := by
  have HR := Lib.hid hr
  have HL := Lib.hid hr.len
  clear hr
  go_enter Tryz.func139, Tryz.ntmps139
  go_wp2
  go_loopw [5, 6, 15] (fun b5 m6 i wr => ∃ k : Nat, k ≤ n ∧ i = .int .i64 (k : Int) ∧ b5 = .int .i64 (mostQ zs x k).1 ∧ m6 = .int .i64 ((mostQ zs x k).2 : Int) ∧ wr = w) (fun _ _ i _ => n - (intOf i).toNat)
  case atStart => exact ⟨0, Nat.zero_le _, rfl, rfl, rfl, rfl⟩
  case round =>
    obtain ⟨k, hk, rfl, rfl, rfl, rfl⟩ := hrel
    by_cases hlt : k < n
    · obtain ⟨b, off, a, rfl, hbw, ha, hca⟩ := HR.out.at_ hlt
      have HN := Lib.hid (mostQ_next (x := x) ha)
      have HLE := Lib.hid (mostQ_le zs x k)
      obtain ⟨q1, hq1⟩ : ∃ q1, q1 = (mostQ zs x k).1 := ⟨_, rfl⟩
      obtain ⟨m, hm⟩ : ∃ m, m = (mostQ zs x k).2 := ⟨_, rfl⟩
      obtain ⟨mi, hmi⟩ : ∃ mi : Int, mi = (m : Int) := ⟨_, rfl⟩
      simp only [← hq1, ← hm, ← hmi]
      have HQ1 := Lib.hid hq1
      have HM := Lib.hid hm
      have HMI := Lib.hid hmi
      clear hq1 hm hmi ha
      go_wp2
      go_loopw [9, 21] (fun c9 i wq => ∃ j : Nat, j ≤ n ∧ i = .int .i64 (j : Int) ∧ c9 = .int .i64 ((zs.take j).count a : Int) ∧ wq = wr) (fun _ i _ => n - (intOf i).toNat)
      case atStart => exact ⟨0, Nat.zero_le _, rfl, rfl, rfl⟩
      case round =>
        obtain ⟨j, hj, rfl, rfl, rfl⟩ := hrel
        have HCL := List.count_le_length (l := zs.take j) (a := a)
        rw [List.length_take] at HCL
        obtain ⟨cnt, hcnt⟩ : ∃ cnt, cnt = (zs.take j).count a := ⟨_, rfl⟩
        rw [← hcnt] at HCL
        obtain ⟨ci, hci⟩ : ∃ ci : Int, ci = (cnt : Int) := ⟨_, rfl⟩
        simp only [← hcnt, ← hci]
        have HCN := Lib.hid hcnt
        have HCI := Lib.hid hci
        have hcb : cnt ≤ 2097152 := by omega
        clear hcnt HCL
        by_cases hlj : j < n
        · obtain ⟨b', off', z, hb', hbw', hz, hcz⟩ := HR.out.at_ hlj
          injection hb' with hb'
          injection hb' with hb1 hb2
          subst hb1
          subst hb2
          have HZ := Lib.hid (count_next (a := a) hz)
          have hwc : IntKind.i64.wrap (ci + 1) = ci + 1 := IntWalk.i64_in _ (by omega)
          clear hci hz hbw'
          by_cases haz : a = z
          · have hcz2 := hcz
            rw [← haz] at hcz2
            have HAZ := Lib.hid haz
            clear hcz haz
            go_wp2
            go_roundw
            case rel => exact ⟨j + 1, by omega, by go_num, g_val (by rw [HZ.out, if_pos HAZ.out, ← HCN.out]; have := HCI.out; omega), by first | rfl | trivial⟩
            case measure => simp [intOf]; omega
          · have hne : (a == z) = false := by simp [haz]
            have HAZ := Lib.hid haz
            go_wp2
            go_roundw
            case rel => exact ⟨j + 1, by omega, by go_num, g_val (by rw [HZ.out, if_neg HAZ.out, ← HCN.out]; have := HCI.out; omega), by first | rfl | trivial⟩
            case measure => simp [intOf]; omega
        · have HJ : Hid (j = n) := Lib.hid (by omega)
          have HCT : Hid (zs.count a = cnt) := Lib.hid (by rw [HCN.out, List.take_of_length_le (by rw [HL.out, HJ.out]; exact Nat.le_refl _)])
          have hm2 : mi = (m : Int) := HMI.out
          by_cases hg : mi < ci
          · have hg2 : decide (mi < ci) = true := by simp [hg]
            have HST : Hid (mostQ zs x (k + 1) = (a, cnt)) := Lib.hid (by rw [HN.out]; unfold mostStep; rw [if_pos (.inl (by rw [HCT.out, ← HM.out]; omega)), HCT.out])
            clear hci hm2
            go_wp2
            go_roundw
            case rel => exact ⟨k + 1, by omega, by go_num, g_val (by rw [HST.out]), g_val (by rw [HST.out]; exact HCI.out), by first | rfl | trivial⟩
            case measure => simp [intOf]; omega
          · have hg2 : decide (mi < ci) = false := by simp; omega
            by_cases he : ci = mi
            · have he2 : (ci == mi) = true := by simp [he]
              by_cases hl : a < q1
              · have HST : Hid (mostQ zs x (k + 1) = (a, cnt)) := Lib.hid (by rw [HN.out]; unfold mostStep; rw [if_pos (.inr (by rw [HCT.out, ← HM.out, ← HQ1.out]; omega)), HCT.out])
                have HE := Lib.hid he
                clear hci hm2 he hg
                go_wp2
                go_roundw
                case rel => exact ⟨k + 1, by omega, by go_num, g_val (by rw [HST.out]), g_val (by rw [HST.out]; exact HCI.out), by first | rfl | trivial⟩
                case measure => simp [intOf]; omega
              · have HST : Hid (mostQ zs x (k + 1) = mostQ zs x k) := Lib.hid (by rw [HN.out]; unfold mostStep; rw [if_neg (by rw [HCT.out, ← HM.out, ← HQ1.out]; omega)])
                have hl2 : decide (a < q1) = false := by simp; omega
                clear hci hm2 he hg
                go_wp2
                go_roundw
                case rel => exact ⟨k + 1, by omega, by go_num, g_val (by rw [HST.out]; exact HQ1.out), g_val (by rw [HST.out, ← HM.out]; exact HMI.out), by first | rfl | trivial⟩
                case measure => simp [intOf]; omega
            · have he2 : (ci == mi) = false := by simp [he]
              have HST : Hid (mostQ zs x (k + 1) = mostQ zs x k) := Lib.hid (by rw [HN.out]; unfold mostStep; rw [if_neg (by rw [HCT.out, ← HM.out, ← HQ1.out]; omega)])
              clear hci hm2
              go_wp2
              go_roundw
              case rel => exact ⟨k + 1, by omega, by go_num, g_val (by rw [HST.out]; exact HQ1.out), g_val (by rw [HST.out, ← HM.out]; exact HMI.out), by first | rfl | trivial⟩
              case measure => simp [intOf]; omega
    · obtain rfl : k = n := by omega
      go_wp2
      go_ret
      exact ⟨g_int (by rw [← HL.out, mostQ_all]), rfl⟩
end Go.Proofs.YtlhcobkncceodaaGreatDoor
