/- The contract of the model's reader of numbers of variable length: the same answer as the program's. Condition: at most 2^21 bytes. // The contract of the model's reader of signed numbers. Condition: at most 2^21 bytes. // A block of two writable cells, what grows while one block is written, a new record that reads (plain lemmas over the model; no condition). // 'b[l:l+m]' of bytes: the value, and what it reads; the contracts of the model's two readers over a struct of its own. Condition: at most 2^21 bytes. // What stands while the model reads a shard: its reader's struct, the last edge, the shard so far, the result's variable (plain lemmas; no condition). // The model's decoding of a shard. Condition: at most 2^20 bytes. -/
import Derived.Test.YtmbabbapcjphgaaGetVarMath
import Derived.Test.YtmbabbapcjphgaaCRA
import Derived.Test.YtmbabbapcjphgaaConv
import Derived.Test.YtmbabbapcjphgaaGetZigMath
import Derived.Test.YtmbabbapcjphgaaGrN
import Derived.Test.YtmbabbapcjphgaaPackMath
import Derived.Test.YtmbabbapcjphgaaBlkB
import Derived.Test.YtmbabbapcjphgaaValsM
import Derived.Test.YtmbabbapcjphgaaSReadM
import Derived.Test.YtmbabbapcjphgaaPackRes
import Derived.Deep.RegionHeld3
namespace Go.Proofs.Ytmbabbapcjphgaa
open Go.RowKit

set_option maxRecDepth 10000 in
set_option maxHeartbeats 400000 in
theorem specGetVar_out (A : Option Addr) (n c : Nat) (a : Int) (w : World) (hn : n ≤ 2097152) (h : a < 0 ∨ n ≤ a) :
    Calls Try.prog 82 #[.slice A n c, .int .i64 a] w fun e w' => e = .returned (.tuple #[.int .i64 0, .int .i64 0, .bool false]) ∧ w = w' := by
  rcases h with h | h
  · go_enter Try.func82, Try.ntmps82
    go_wp2
    go_ret3
    exact ⟨rfl, rfl⟩
  · go_enter Try.func82, Try.ntmps82
    go_wp2
    go_ret3
    exact ⟨rfl, rfl⟩

theorem val_drop (l : List Nat) (q x : Nat) (h : l[q]? = some x) : val (l.drop q) = val (l.drop (q + 1)) * 128 + x % 128 := by
  obtain ⟨hl, he⟩ := List.getElem?_eq_some_iff.1 h
  rw [List.drop_eq_getElem_cons hl, he]
  simp only [val]
  omega

set_option maxRecDepth 10000 in
set_option maxHeartbeats 2000000 in
theorem specGetVar_in (A : Option Addr) (n c p : Nat) (xs : List Nat) (w : World) (hr : Rd w A n xs) (hn : n ≤ 2097152) (hnc : n ≤ c) (hp : p < n) :
    Calls Try.prog 82 #[.slice A n c, .int .i64 (p : Int)] w fun e w' => e = .returned (gvVal xs p n) ∧ Below w.heap.size w w' := by
  have HL := Lib.hid hr.len
  obtain ⟨ds, hds⟩ : ∃ ds, ds = xs.drop p := ⟨_, rfl⟩
  have HD := Lib.hid hds
  have hdl : ds.length = n - p := by rw [hds, List.length_drop, HL.out]
  have HDL := Lib.hid hdl
  obtain ⟨K, hK⟩ : ∃ K, K = scan ds := ⟨_, rfl⟩
  have hKl : K ≤ n - p := by rw [hK, ← hdl]; exact scan_le ds
  have HK := Lib.hid hK
  have HV : Hid (gv xs p n = gvOk ds) := by rw [hds]; exact gv_in xs p n hp
  clear hdl hK hds
  obtain ⟨T, hT7, hTK, hTT⟩ : ∃ T : Nat, T ≤ 7 ∧ T ≤ K ∧ (T < 7 → K ≤ T) := ⟨min K 7, by omega, by omega, by omega⟩
  go_enter Try.func82, Try.ntmps82
  go_wp2
  go_loop [7] (fun t => ∃ j : Nat, j ≤ T ∧ t = .int .i64 ((p : Int) + j)) (fun t => p + 7 - (intOf t).toNat)
  case atStart => exact ⟨0, by omega, by go_num⟩
  case round =>
    obtain ⟨j, hjT, rfl⟩ := hrel
    by_cases hlt : j < T
    · obtain ⟨b, off, x, rfl, hbw, hx, hxs, hc⟩ := hr.at_ (k := p + j) (by omega)
      have hdx : Hid (ds[j]? = some x) := by rw [HD.out, List.getElem?_drop]; exact hxs
      have hx2 : 128 ≤ x := by
        obtain ⟨y, hy, hy2⟩ := scan_lt ds j (by rw [← HK.out]; omega)
        have := hdx.out.symm.trans hy
        injection this with this
        omega
      go_wp2
      go_round
      case rel => exact ⟨j + 1, by omega, by go_num⟩
      case measure => simp [intOf]; omega
    · obtain rfl : j = T := by omega
      by_cases hend : j = 7 ∨ K = n - p
      · have hno := Lib.hid (gvVal_no xs p n (by rw [HV.out]; exact gvOk_no ds (by rw [← HK.out, HDL.out]; omega)))
        by_cases hpn : p + j = n
        · have hq1 : ((p : Int) + (j : Int) == (n : Int)) = true := by rw [beq_iff_eq]; omega
          have hge : (n : Int) ≤ (p : Int) + j := by omega
          clear hpn hend
          go_wp2
          go_ret3
          exact ⟨by rw [hno.out]; rfl, Below.refl _ _⟩
        · have hj7 : 7 ≤ j := by omega
          have hq1 : ((p : Int) + (j : Int) == (n : Int)) = false := beq_eq_false_iff_ne.mpr (by omega)
          have hq2 : ((p : Int) + (j : Int) == (p : Int) + 7) = true := by rw [beq_iff_eq]; omega
          have hlt2 : (p : Int) + j < n := by omega
          clear hpn hend
          go_wp2
          go_ret3
          exact ⟨by rw [hno.out]; rfl, Below.refl _ _⟩
      · have hj7 : j < 7 := by omega
        have hKn : K < n - p := by omega
        obtain rfl : j = K := by omega
        have hsl : scan ds < ds.length := by rw [← HK.out, HDL.out]; omega
        obtain ⟨b, off, x, rfl, hbw, hx, hxs, hc⟩ := hr.at_ (k := p + j) (by omega)
        have hdx : Hid (ds[j]? = some x) := by rw [HD.out, List.getElem?_drop]; exact hxs
        have hx2 : x < 128 := by
          obtain ⟨y, hy, hy2⟩ := scan_at ds hsl
          rw [← HK.out] at hy
          have := hdx.out.symm.trans hy
          injection this with this
          omega
        have HSL := Lib.hid hsl
        clear hsl hend
        have hq1 : ((p : Int) + (j : Int) == (n : Int)) = false := beq_eq_false_iff_ne.mpr (by omega)
        have hq2 : ((p : Int) + (j : Int) == (p : Int) + 7) = false := beq_eq_false_iff_ne.mpr (by omega)
        obtain ⟨l, hl⟩ : ∃ l, l = ds.take (j + 1) := ⟨_, rfl⟩
        have hll : l.length = j + 1 := by rw [hl, List.length_take, Nat.min_eq_left]; have := HSL.out; rw [← HK.out] at this; omega
        have HLL := Lib.hid hll
        have HLE := Lib.hid hl
        clear hl hll
        go_wp2
        clear hq1 hq2
        go_loop [8, 9] (fun t i => ∃ z : Int, (p : Int) - 1 ≤ z ∧ z ≤ p + j ∧ i = .int .i64 z ∧ t = .int .i64 (val (l.drop (z - p + 1).toNat) : Nat)) (fun _ i => (intOf i - p + 1).toNat)
        case atStart => exact ⟨p + j, by omega, by omega, rfl, by rw [List.drop_of_length_le (by rw [HLL.out]; omega)]; rfl⟩
        case round =>
          obtain ⟨z, hz1, hz2, rfl, rfl⟩ := hrel
          by_cases hz : p ≤ z
          · obtain ⟨s, rfl⟩ : ∃ s : Nat, z = (p : Int) + s := ⟨(z - p).toNat, by omega⟩
            obtain ⟨b', off', y, hA', hbw', hy, hys, hcy⟩ := hr.at_ (k := p + s) (by omega)
            obtain ⟨rfl, rfl⟩ : b = b' ∧ off = off' := by injection hA' with h; injection h with h1 h2; exact ⟨h1, h2⟩
            have hly : Hid (l[s]? = some y) := by rw [HLE.out, List.getElem?_take, if_pos (by omega), HD.out, List.getElem?_drop]; exact hys
            have hst := Lib.hid (val_drop l s y hly.out)
            have e1 : ((p : Int) + s - p + 1).toNat = s + 1 := by omega
            have e2 : Hid (((p : Int) + s - 1 - p + 1).toNat = s) := by show _ = _; omega
            rw [e1]
            obtain ⟨v, hv⟩ : ∃ v, v = val (l.drop (s + 1)) := ⟨_, rfl⟩
            have hvb : v < 4398046511104 := by rw [hv]; exact Nat.lt_of_lt_of_le (val_lt _) (Nat.pow_le_pow_right (n := 128) (j := 6) (by omega) (by rw [List.length_drop, HLL.out]; omega))
            rw [← hv] at hst ⊢
            clear hv e1 hA'
            go_wp2
            go_round
            case rel => exact ⟨(p : Int) + s - 1, by omega, by omega, rfl, by rw [e2.out, hst.out]; go_num⟩
            case measure => simp [intOf]; omega
          · obtain rfl : z = p - 1 := by omega
            have e1 : ((p : Int) - 1 - p + 1).toNat = 0 := by omega
            rw [e1, List.drop_zero]
            obtain ⟨v, hv⟩ : ∃ v, v = val l := ⟨_, rfl⟩
            have hvb : v < 562949953421312 := by rw [hv]; exact Nat.lt_of_lt_of_le (val_lt _) (Nat.pow_le_pow_right (n := 128) (j := 7) (by omega) (by rw [HLL.out]; omega))
            have HVL := Lib.hid hv
            rw [← hv]
            clear hv e1
            have hshape : Hid (shape l) := by rw [HLE.out, HK.out]; exact shape_take ds (by intro x hx; rw [HD.out] at hx; exact hr.small x (List.mem_of_mem_drop hx)) HSL.out
            have hdv : Hid (digits 6 v = l ↔ shortest l = true) := by rw [HVL.out]; exact digits_val l 6 hshape.out (by rw [HLL.out]; omega)
            have hds2 : Hid (ds[scan ds]? = some x) := by rw [← HK.out]; exact hdx
            by_cases hvN : v ≤ 281474976710655
            · obtain ⟨ys, hys⟩ : ∃ ys, ys = digits 6 v := ⟨_, rfl⟩
              have C := Lib.hid (specPutVar_yes none 0 0 v [] w Rd.nil (by omega) hvN)
              rw [List.nil_append, ← hys] at C
              have hysm : Hid (∀ x ∈ ys, x < 256) := by rw [hys]; exact digits_bytes 6 v (by omega)
              rw [← hys] at hdv
              have hysl : ys.length ≤ 7 := by rw [hys]; exact digits_length 6 v
              clear hys
              go_wp2_with fail
              refine C.out.mono ?_
              rintro e wb ⟨A2, c2, rfl, ho2, hb2⟩
              have R2 := Lib.hid (Rd.of_own ho2 hysm.out)
              have Rl : Hid (Rd wb (some ⟨b, off + p, none⟩) (p + j + 1 - p) l) := by rw [show p + j + 1 - p = j + 1 by omega, HLE.out, HD.out]; exact (hr.below hb2).cut (by omega)
              have cv1 := fun k => conv_rd c2 (R2.out.drewN k)
              have cv2 := fun k => conv_rd (c - p) (Rl.out.drewN k)
              have cv10 := conv_rd c2 R2.out
              have cv20 := conv_rd (c - p) Rl.out
              have hw1 : IntKind.i64.wrap ((p : Int) + (j : Int) + 1) = (p : Int) + j + 1 := IntWalk.i64_in _ (by omega)
              have hbq := Lib.hid (strB_beq ys l hysm.out Rl.out.small)
              generalize strB ys = S1 at cv1 cv10 hbq
              generalize strB l = S2 at cv2 cv20 hbq
              by_cases hsame : ys = l
              · have hb3 : (S1.toList == S2.toList) = true := by rw [hbq.out]; exact decide_eq_true hsame
                have hyes : gv xs p n = true := by rw [HV.out]; exact gvOk_yes ds x (by rw [← HK.out]; omega) HSL.out hds2.out ((shortest_take ds HSL.out x hds2.out).1 (by rw [← HK.out, ← HLE.out]; exact hdv.out.1 hsame)) (by rw [← HK.out, ← HLE.out, ← HVL.out]; exact hvN)
                have hval : Hid (gvVal xs p n = .tuple #[.int .i64 (v : Int), .int .i64 ((p : Int) + j + 1), .bool true]) := by
                  show gvVal xs p n = _
                  unfold gvVal gvN gvE
                  rw [hyes, if_pos rfl, if_pos rfl, HVL.out, HLE.out, HK.out, HD.out]
                  rfl
                clear hyes hsame
                go_wp2
                go_quiet (fail)
                go_wp2
                go_ret3
                exact ⟨by rw [hval.out]; rfl, below_drewN hb2 _⟩
              · have hb3 : (S1.toList == S2.toList) = false := by rw [hbq.out]; exact decide_eq_false hsame
                have hno := Lib.hid (gvVal_no xs p n (by
                  rw [HV.out]
                  unfold gvOk
                  have : shortest (ds.take (scan ds + 1)) = false := by rw [Bool.eq_false_iff, ← HK.out, ← HLE.out]; exact fun hc => hsame (hdv.out.2 hc)
                  rw [this, Bool.and_false]))
                clear hsame
                go_wp2
                go_quiet (fail)
                go_wp2
                go_ret3
                exact ⟨by rw [hno.out]; rfl, below_drewN hb2 _⟩
            · have C := Lib.hid (specPutVar_no none 0 0 (v : Int) w (by omega))
              have hno := Lib.hid (gvVal_no xs p n (by rw [HV.out]; exact gvOk_big ds (by rw [← HK.out, ← HLE.out, ← HVL.out]; omega)))
              go_wp2_with fail
              refine C.out.mono ?_
              rintro e wb ⟨A2, c2, rfl, ho2, hb2⟩
              go_wp2
              go_quiet (fail)
              go_wp2
              go_ret3
              exact ⟨by rw [hno.out]; rfl, below_drewN hb2 _⟩
theorem specGetVar (A : Option Addr) (n c : Nat) (a : Int) (xs : List Nat) (w : World) (hr : Rd w A n xs) (hn : n ≤ 2097152) (hnc : n ≤ c) :
    Calls Try.prog 82 #[.slice A n c, .int .i64 a] w fun e w' => e = .returned (gvVal xs a n) ∧ Below w.heap.size w w' := by
  by_cases h : 0 ≤ a ∧ a < n
  · obtain ⟨p, rfl⟩ : ∃ p : Nat, a = p := ⟨a.toNat, by omega⟩
    exact specGetVar_in A n c p xs w hr hn hnc (by omega)
  · rw [gvVal_no xs a n (gv_out xs a n h)]
    refine (specGetVar_out A n c a w hn (by omega)).mono ?_
    rintro e w' ⟨rfl, rfl⟩
    exact ⟨rfl, Below.refl _ _⟩
end Go.Proofs.Ytmbabbapcjphgaa
namespace Go.Proofs.Ytmbabbapcjphgaa
open Go.RowKit

set_option maxRecDepth 10000 in
set_option maxHeartbeats 400000 in
theorem specGetZig (A : Option Addr) (n c : Nat) (a : Int) (xs : List Nat) (w : World) (hr : Rd w A n xs) (hn : n ≤ 2097152) (hnc : n ≤ c) :
    Calls Try.prog 102 #[.slice A n c, .int .i64 a] w fun e w' => e = .returned (gzVal xs a n) ∧ Below w.heap.size w w' := by
  have C := Lib.hid (specGetVar A n c a xs w hr hn hnc)
  cases h : gv xs a n with
  | false =>
    rw [gz_no xs a n h]
    rw [gvVal_no xs a n h] at C
    clear h
    go_enter Try.func102, Try.ntmps102
    go_wp2_with (go_at_call 82; refine C.out.mono ?_; rintro e w' ⟨rfl, hb⟩)
    go_ret3
    exact ⟨rfl, hb⟩
  | true =>
    rw [gz_yes xs a n h]
    rw [gvVal_yes xs a n h] at C
    obtain ⟨hb0, hb1⟩ := gvN_bounds xs a n
    generalize gvN xs a n = v at hb0 hb1 C ⊢
    generalize gvE xs a n = m at C ⊢
    clear h
    by_cases ho : v % 2 = 1
    · have e1 : Hid (unzig v = wrap64 (-(v + 1).tdiv 2)) := by
        show unzig v = _
        unfold unzig
        rw [if_pos ho, Int.tdiv_eq_ediv_of_nonneg (by omega), IntWalk.wrap64_in _ ⟨by omega, by omega⟩]
        omega
      have ho2 : (v % 2 == 1) = true := by rw [beq_iff_eq]; exact ho
      clear ho
      go_enter Try.func102, Try.ntmps102
      go_wp2_with (go_at_call 82; refine C.out.mono ?_; rintro e w' ⟨rfl, hb⟩)
      go_ret3
      exact ⟨by rw [e1.out]; rfl, hb⟩
    · have e1 : Hid (unzig v = v / 2) := by simp [unzig, ho, Hid]
      have ho2 : (v % 2 == 1) = false := beq_eq_false_iff_ne.mpr ho
      clear ho
      go_enter Try.func102, Try.ntmps102
      go_wp2_with (go_at_call 82; refine C.out.mono ?_; rintro e w' ⟨rfl, hb⟩)
      go_ret3
      exact ⟨by rw [e1.out]; rfl, hb⟩
end Go.Proofs.Ytmbabbapcjphgaa
namespace Go.Proofs.Ytmbabbapcjphgaa
open Go.RowKit

theorem grown_up {a b c : World} {row r2 : Option Nat} (h : a.grownBy b row) (k : b.grownBy c r2) (hr : ∀ j, r2 = some j → a.heap.size ≤ j) : a.grownBy c row :=
  ⟨k.os.trans h.os, k.tape.trans h.tape, k.output.trans h.output, Nat.le_trans h.size k.size, fun i hi hn => (k.block i (Nat.lt_of_lt_of_le hi h.size) (fun e => by have := hr i e.symm; omega)).trans (h.block i hi hn)⟩
theorem grown_below {a b c : World} {row : Option Nat} (h : a.grownBy b row) (k : Below b.heap.size b c) : a.grownBy c row := grownBy_trans h (grownBy_of_below k row)
theorem grown_set {a b : World} {g i : Nat} (h : a.grownBy b (some g)) (u : Value) : a.grownBy (b.setCell ⟨g, i, none⟩ u) (some g) :=
  ⟨h.os, h.tape, h.output, by simpa using h.size, fun j hj hn => (Below.heap_setCell b ⟨g, i, none⟩ u j (fun e => hn (by rw [e]))).trans (h.block j hj hn)⟩
theorem grown_drew {a b : World} {row : Option Nat} (h : a.grownBy b row) : a.grownBy b.drew row := ⟨h.os, h.tape, h.output, h.size, h.block⟩

/-- A block of two cells that may be written. -/
structure DBox (w : World) (b : Nat) (v0 v1 : Value) : Prop where
  lt : b < w.heap.size
  c0 : w.cell? ⟨b, 0, none⟩ = some v0
  c1 : w.cell? ⟨b, 1, none⟩ = some v1
  f : ∀ i, w.frozen? ⟨b, i, none⟩ = false
section
variable {w w' : World} {b : Nat} {v0 v1 : Value}
theorem DBox.keep (h : DBox w b v0 v1) (hs : w.heap.size ≤ w'.heap.size) (hk : w'.heap[b]? = w.heap[b]?) : DBox w' b v0 v1 :=
  ⟨Nat.lt_of_lt_of_le h.lt hs, (World.cell?_of_block (a := ⟨b, 0, none⟩) hk).trans h.c0, (World.cell?_of_block (a := ⟨b, 1, none⟩) hk).trans h.c1, fun i => (World.frozen?_of_block (a := ⟨b, i, none⟩) hk).trans (h.f i)⟩
theorem DBox.below (h : DBox w b v0 v1) (hb : Below w.heap.size w w') : DBox w' b v0 v1 := h.keep hb.size (hb.block b h.lt)
theorem DBox.grown {row : Option Nat} (h : DBox w b v0 v1) (hg : w.grownBy w' row) (hr : row ≠ some b) : DBox w' b v0 v1 := h.keep hg.size (hg.block b h.lt (fun e => hr e.symm))
theorem DBox.new (w : World) (v0 v1 : Value) (t : TypeId) : DBox (w.alloc (.cells #[v0, v1] t)) w.heap.size v0 v1 := ⟨by simp, by simp, by simp, fun i => by simp⟩
theorem DBox.alloc (h : DBox w b v0 v1) (o : Obj) : DBox (w.alloc o) b v0 v1 := h.below (below_a1 w o)
theorem DBox.drew (h : DBox w b v0 v1) : DBox w.drew b v0 v1 := ⟨h.lt, h.c0, h.c1, h.f⟩
theorem DBox.far (h : DBox w b v0 v1) {p : Addr} (hp : b ≠ p.block) (u : Value) : DBox (w.setCell p u) b v0 v1 := h.keep (by simp) (Below.heap_setCell w p u b hp)
theorem DBox.set1 (h : DBox w b v0 v1) (u : Value) : DBox (w.setCell ⟨b, 1, none⟩ u) b v0 u :=
  ⟨by simpa using h.lt, by rw [World.cell?_setCell_other _ _ _ _ (by simp)]; exact h.c0, World.cell?_setCell_same' _ _ _ (by rw [h.c1]; rfl), fun i => by simpa using h.f i⟩
end

theorem three_reads (w : World) (a b c : Int) (t : TypeId) (g : Nat) (hg : g = w.heap.size) : Reads (w.alloc (.cells #[.int .i64 a, .int .i64 b, .int .i64 c] t)) (g + 1) 3 (some ⟨g, 0, none⟩) 1 [.int .i64 a, .int .i64 b, .int .i64 c] := by
  subst hg
  refine ⟨rfl, fun _ => ⟨_, rfl, by simp, fun j x hj => ?_⟩⟩
  match j, hj with
  | 0, hj => simp at hj; subst hj; simp [Addr.add]
  | 1, hj => simp at hj; subst hj; simp [Addr.add]
  | 2, hj => simp at hj; subst hj; simp [Addr.add]
theorem own_formG {w : World} {base e size n : Nat} {v : Value} {xs : List Value} (h : w.ownsRow base e size v n xs) : ∃ A c, v = .slice A n c ∧ n ≤ c := by
  rcases h.2 with ⟨rfl, rfl⟩ | ⟨g, cap, _, rfl, _, _, hc, _⟩
  · exact ⟨_, _, rfl, Nat.le_refl _⟩
  · exact ⟨_, _, rfl, hc⟩
end Go.Proofs.Ytmbabbapcjphgaa
namespace Go.Proofs.Ytmbabbapcjphgaa
open Go.RowKit

theorem pkElem : Try.prog.underlying 55 = some (.slice (Try.prog.elem 55)) := by simp [Program.elem, Try.underlying55]
theorem pkElem' : Try.prog.elem 55 = 5 := by simp [Program.elem, Try.underlying55]
theorem pk_plain (b off j : Nat) : ((⟨b, off, none⟩ : Addr).add j) = ⟨b, off + j, none⟩ := by unfold Addr.add; split <;> simp_all
theorem pk_slice_mid {A : Option Addr} {n c l m : Nat} {xs : List Nat} {w : World} (hi : Int) (hr : Rd w A n xs) (he : hi = (l : Int) + m) (hk : l + m ≤ n) (hc : n ≤ c) :
    ∃ A', (∀ W, (Instr.slice 55 (.slice A n c) (some (.int .i64 (l : Int))) (some (.int .i64 hi)) none).run Try.prog W = .ok (.slice A' m (c - l)) W) ∧ Rd w A' m ((xs.drop l).take m) := by
  refine ⟨if c = l then A else A.map (·.add (l * 1)), fun W => ?_, ?_⟩
  · rw [run_slice_lh W _ _ _ _ pkElem .i64 .i64 (l : Int) hi (by omega) (by omega) (by omega), pkElem', byteSize, Int.toNat_natCast]
    have e : hi.toNat = l + m := by omega
    rw [e]
    show Result.ok (sliced A l (l + m) c 1) W = _
    unfold sliced
    rw [Nat.add_sub_cancel_left]
  · by_cases hz : m = 0
    · subst hz
      rw [List.take_zero]
      exact ⟨rfl, by simp, fun h => absurd h (by omega)⟩
    · obtain ⟨b, off, rfl, _, _⟩ := hr.lies (by omega)
      rw [if_neg (by omega), Nat.mul_one]
      have h := hr.cut (p := l) (m := m) (by omega)
      have e : (some (⟨b, off, none⟩ : Addr)).map (·.add l) = some ⟨b, off + l, none⟩ := by simp [pk_plain]
      rw [e]
      exact h

/-- The reader's struct. -/
def LB (w : World) (rr : Nat) (A : Option Addr) (n c : Nat) (a : Int) (bad : Bool) : Prop := Blk w rr #[.slice A n c, .int .i64 a, .bool bad] 107
theorem LB.below {w w' : World} {rr n c : Nat} {A : Option Addr} {a : Int} {bad : Bool} (h : LB w rr A n c a bad) (hb : Below w.heap.size w w') : LB w' rr A n c a bad := Blk.below h hb
theorem LB.cells {w : World} {rr n c : Nat} {A : Option Addr} {a : Int} {bad : Bool} (h : LB w rr A n c a bad) : w.cell? ⟨rr, 0, none⟩ = some (.slice A n c) ∧ w.cell? ⟨rr, 1, none⟩ = some (.int .i64 a) ∧ w.cell? ⟨rr, 2, none⟩ = some (.bool bad) := ⟨Blk.cell h (i := 0) rfl, Blk.cell h (i := 1) rfl, Blk.cell h (i := 2) rfl⟩
/-- Where it stands: -1 behind a number that is missing. -/
def PW (a : Int) (bad : Bool) (pos : Int) : Prop := (bad = true ∧ pos = -1) ∨ (bad = false ∧ pos = a)
def QR (w : World) (rr : Nat) (A : Option Addr) (n c : Nat) (pos : Int) : Prop := ∃ a bad, LB w rr A n c a bad ∧ ((bad = true ∧ pos = -1) ∨ (bad = false ∧ pos = a ∧ 0 < a))
theorem QR.weak {w : World} {rr n c : Nat} {A : Option Addr} {pos : Int} (h : QR w rr A n c pos) : ∃ a bad, LB w rr A n c a bad ∧ PW a bad pos := by
  obtain ⟨a, bad, h1, h2⟩ := h
  refine ⟨a, bad, h1, ?_⟩
  rcases h2 with ⟨h2, h3⟩ | ⟨h2, h3, _⟩
  · exact .inl ⟨h2, h3⟩
  · exact .inr ⟨h2, h3⟩
theorem QR.below {w w' : World} {rr n c : Nat} {A : Option Addr} {pos : Int} (h : QR w rr A n c pos) (hb : Below w.heap.size w w') : QR w' rr A n c pos := by
  obtain ⟨a, bad, h1, h2⟩ := h
  exact ⟨a, bad, h1.below hb, h2⟩
theorem QR.drew {w : World} {rr n c : Nat} {A : Option Addr} {pos : Int} (h : QR w rr A n c pos) : QR w.drew rr A n c pos := by
  obtain ⟨a, bad, h1, h2⟩ := h
  exact ⟨a, bad, Blk.drew h1, h2⟩
theorem QR.other {w : World} {rr n c : Nat} {A : Option Addr} {pos : Int} (h : QR w rr A n c pos) {p : Addr} (hp : rr ≠ p.block) (u : Value) : QR (w.setCell p u) rr A n c pos := by
  obtain ⟨a, bad, h1, h2⟩ := h
  exact ⟨a, bad, Blk.other h1 hp u, h2⟩
theorem QR.grown {w w' : World} {rr n c : Nat} {A : Option Addr} {pos : Int} (h : QR w rr A n c pos) {row : Option Nat} (hg : w.grownBy w' row) (hr : row ≠ some rr) : QR w' rr A n c pos := by
  obtain ⟨a, bad, h1, h2⟩ := h
  exact ⟨a, bad, Blk.grown h1 hg hr, h2⟩
theorem qr_put {w : World} {rr n c : Nat} {A : Option Addr} {a v : Int} {bad : Bool} (h : LB w rr A n c a bad) (hv : 0 < v) (hb : bad = false) : QR (w.setCell ⟨rr, 1, none⟩ (.int .i64 v)) rr A n c v := ⟨v, bad, Blk.set h 1 (.int .i64 v), .inr ⟨hb, rfl, hv⟩⟩
theorem qr_bad {w : World} {rr n c : Nat} {A : Option Addr} {a : Int} {bad : Bool} (h : LB w rr A n c a bad) : QR (w.setCell ⟨rr, 2, none⟩ (.bool true)) rr A n c (-1) := ⟨a, true, Blk.set h 2 (.bool true), .inl ⟨rfl, rfl⟩⟩
theorem grown_nil {a b : World} (hb : Below a.heap.size a b) (g i : Nat) (u : Value) : a.grownBy (b.setCell ⟨g, i, none⟩ u) (some g) := grown_set (grownBy_of_below hb (some g)) u

set_option maxRecDepth 10000 in
set_option maxHeartbeats 2000000 in
theorem rdVar {rr n c : Nat} {A : Option Addr} {a pos : Int} {bad : Bool} {xs : List Nat} {W : World} (h : LB W rr A n c a bad) (hp : PW a bad pos) (hr : Rd W A n xs) (hn : n ≤ 2097152) (hnc : n ≤ c) :
    Calls Try.prog 75 #[.pointer (some ⟨rr, 0, none⟩)] W fun e w' => e = .returned (.int .i64 (gvN xs pos n)) ∧ QR w' rr A n c (nxV xs pos n) ∧ W.grownBy w' (some rr) := by
  have C := Lib.hid (fun W' (h : Below W.heap.size W W') => specGetVar A n c a xs W' (hr.below h) hn hnc)
  have HLB := Lib.hid h
  obtain ⟨c0, c1, c2⟩ := h.cells
  have hlt := Blk.lt h
  have HXL := Lib.hid hr.len
  clear h hr
  rcases hp with ⟨rfl, rfl⟩ | ⟨rfl, rfl⟩
  · rw [nxV_neg xs (-1) n (by omega), gvN_neg xs (-1) n (by omega)]
    unfold gvVal at C
    generalize gvN xs a n = v at C
    generalize gvE xs a n = p at C
    generalize gv xs a n = ok at C
    go_enter Try.func75, Try.ntmps75
    go_wp2
    go_region_with (go_at_call 82; refine (C.out _ (by first | exact Below.refl _ _ | exact (Below.refl _ _).drew)).mono ?_; rintro e w1 ⟨rfl, hb⟩; have HB : Hid (Below W.heap.size W w1) := Lib.hid (by first | exact hb | exact ⟨hb.os, hb.tape, hb.output, hb.size, hb.block⟩); obtain ⟨d0, d1, d2⟩ := (HLB.out.below HB.out).cells; have f2 := Blk.frozen (HLB.out.below HB.out) 2)
    all_goals
      cases ok with
      | true =>
        go_wp2
        go_ret
        exact ⟨rfl, qr_bad (HLB.out.below HB.out), grown_nil HB.out _ _ _⟩
      | false =>
        go_wp2
        go_ret
        exact ⟨rfl, qr_bad (HLB.out.below HB.out), grown_nil HB.out _ _ _⟩
  · cases hg : gv xs pos n with
    | true =>
      have hpz : Hid (nxV xs pos n = gvE xs pos n ∧ 0 < gvE xs pos n) := Lib.hid ⟨nxV_yes hg, by have := gvE_facts HXL.out hg; omega⟩
      rw [gvVal_yes xs pos n hg] at C
      rw [hpz.out.1]
      generalize gvE xs pos n = p at C hpz
      generalize gvN xs pos n = v at C ⊢
      clear hg
      go_enter Try.func75, Try.ntmps75
      go_wp2
      go_region_with (go_at_call 82; refine (C.out _ (by first | exact Below.refl _ _ | exact (Below.refl _ _).drew)).mono ?_; rintro e w1 ⟨rfl, hb⟩; have HB : Hid (Below W.heap.size W w1) := Lib.hid (by first | exact hb | exact ⟨hb.os, hb.tape, hb.output, hb.size, hb.block⟩); obtain ⟨d0, d1, d2⟩ := (HLB.out.below HB.out).cells; have f1 := Blk.frozen (HLB.out.below HB.out) 1)
      all_goals
        go_wp2
        go_ret
        exact ⟨rfl, qr_put (HLB.out.below HB.out) hpz.out.2 rfl, grown_nil HB.out _ _ _⟩
    | false =>
      have hz : gvN xs pos n = 0 := by simp [gvN, hg]
      have hx : nxV xs pos n = -1 := by rw [nxV, hg]; rfl
      rw [gvVal_no xs pos n hg] at C
      rw [hz, hx]
      clear hg hz hx
      go_enter Try.func75, Try.ntmps75
      go_wp2
      go_region_with (go_at_call 82; refine (C.out _ (by first | exact Below.refl _ _ | exact (Below.refl _ _).drew)).mono ?_; rintro e w1 ⟨rfl, hb⟩; have HB : Hid (Below W.heap.size W w1) := Lib.hid (by first | exact hb | exact ⟨hb.os, hb.tape, hb.output, hb.size, hb.block⟩); obtain ⟨d0, d1, d2⟩ := (HLB.out.below HB.out).cells; have f2 := Blk.frozen (HLB.out.below HB.out) 2)
      all_goals
        go_wp2
        go_ret
        exact ⟨rfl, qr_bad (HLB.out.below HB.out), grown_nil HB.out _ _ _⟩

set_option maxRecDepth 10000 in
set_option maxHeartbeats 2000000 in
theorem rdZig {rr n c : Nat} {A : Option Addr} {a pos : Int} {bad : Bool} {xs : List Nat} {W : World} (h : LB W rr A n c a bad) (hp : PW a bad pos) (hr : Rd W A n xs) (hn : n ≤ 2097152) (hnc : n ≤ c) :
    Calls Try.prog 76 #[.pointer (some ⟨rr, 0, none⟩)] W fun e w' => e = .returned (.int .i64 (vZ xs pos n)) ∧ QR w' rr A n c (nxV xs pos n) ∧ W.grownBy w' (some rr) := by
  have C := Lib.hid (fun W' (h : Below W.heap.size W W') => specGetZig A n c a xs W' (hr.below h) hn hnc)
  have HLB := Lib.hid h
  obtain ⟨c0, c1, c2⟩ := h.cells
  have hlt := Blk.lt h
  have HXL := Lib.hid hr.len
  clear h hr
  rcases hp with ⟨rfl, rfl⟩ | ⟨rfl, rfl⟩
  · rw [nxV_neg xs (-1) n (by omega), vZ_neg xs (-1) n (by omega)]
    unfold gzVal at C
    generalize (if gv xs a n = true then unzig (gvN xs a n) else 0) = v at C
    generalize gvE xs a n = p at C
    generalize gv xs a n = ok at C
    go_enter Try.func76, Try.ntmps76
    go_wp2
    go_region_with (go_at_call 102; refine (C.out _ (by first | exact Below.refl _ _ | exact (Below.refl _ _).drew)).mono ?_; rintro e w1 ⟨rfl, hb⟩; have HB : Hid (Below W.heap.size W w1) := Lib.hid (by first | exact hb | exact ⟨hb.os, hb.tape, hb.output, hb.size, hb.block⟩); obtain ⟨d0, d1, d2⟩ := (HLB.out.below HB.out).cells; have f2 := Blk.frozen (HLB.out.below HB.out) 2)
    all_goals
      cases ok with
      | true =>
        go_wp2
        go_ret
        exact ⟨rfl, qr_bad (HLB.out.below HB.out), grown_nil HB.out _ _ _⟩
      | false =>
        go_wp2
        go_ret
        exact ⟨rfl, qr_bad (HLB.out.below HB.out), grown_nil HB.out _ _ _⟩
  · cases hg : gv xs pos n with
    | true =>
      have hpz : Hid (nxV xs pos n = gvE xs pos n ∧ 0 < gvE xs pos n) := Lib.hid ⟨nxV_yes hg, by have := gvE_facts HXL.out hg; omega⟩
      rw [gz_yes xs pos n hg] at C
      unfold vZ
      rw [hpz.out.1]
      rw [hg, if_pos rfl]
      generalize gvE xs pos n = p at C hpz
      generalize unzig (gvN xs pos n) = v at C ⊢
      clear hg
      go_enter Try.func76, Try.ntmps76
      go_wp2
      go_region_with (go_at_call 102; refine (C.out _ (by first | exact Below.refl _ _ | exact (Below.refl _ _).drew)).mono ?_; rintro e w1 ⟨rfl, hb⟩; have HB : Hid (Below W.heap.size W w1) := Lib.hid (by first | exact hb | exact ⟨hb.os, hb.tape, hb.output, hb.size, hb.block⟩); obtain ⟨d0, d1, d2⟩ := (HLB.out.below HB.out).cells; have f1 := Blk.frozen (HLB.out.below HB.out) 1)
      all_goals
        go_wp2
        go_ret
        exact ⟨rfl, qr_put (HLB.out.below HB.out) hpz.out.2 rfl, grown_nil HB.out _ _ _⟩
    | false =>
      have hz : vZ xs pos n = 0 := by simp [vZ, hg]
      have hx : nxV xs pos n = -1 := by rw [nxV, hg]; rfl
      rw [gz_no xs pos n hg] at C
      rw [hz, hx]
      clear hg hz hx
      go_enter Try.func76, Try.ntmps76
      go_wp2
      go_region_with (go_at_call 102; refine (C.out _ (by first | exact Below.refl _ _ | exact (Below.refl _ _).drew)).mono ?_; rintro e w1 ⟨rfl, hb⟩; have HB : Hid (Below W.heap.size W w1) := Lib.hid (by first | exact hb | exact ⟨hb.os, hb.tape, hb.output, hb.size, hb.block⟩); obtain ⟨d0, d1, d2⟩ := (HLB.out.below HB.out).cells; have f2 := Blk.frozen (HLB.out.below HB.out) 2)
      all_goals
        go_wp2
        go_ret
        exact ⟨rfl, qr_bad (HLB.out.below HB.out), grown_nil HB.out _ _ _⟩
end Go.Proofs.Ytmbabbapcjphgaa
namespace Go.Proofs.Ytmbabbapcjphgaa
open Go.RowKit

structure QBk where
  rr : Nat
  bl : Nat
  bs : Nat
  br : Nat
  low : Nat
structure QBk.Ok (k : QBk) (w : World) : Prop where
  r : w.heap.size ≤ k.br
  q : k.br < k.rr
  s : k.rr < k.bs
  l : k.bs < k.bl
  w : k.bl < k.low
structure QB (k : QBk) (w W : World) (A : Option Addr) (n c : Nat) (pos : Int) (d : KE) (lo hi : Int) (A1 : Option Addr) (c1 : Nat) (ks : List KE) : Prop where
  q : QR W k.rr A n c pos
  l : KBlk W k.bl d
  s : SBlk W k.bs lo hi A1 ks.length c1
  z : SBlk W k.br 0 0 none 0 0
  o : W.ownsRow k.low 77 5 (.slice A1 ks.length c1) ks.length (ks.flatMap KE.cells)
  b : Below w.heap.size w W
  g : k.low ≤ W.heap.size
section
variable {k : QBk} {w W : World} {A A1 : Option Addr} {n c c1 : Nat} {pos lo hi : Int} {d : KE} {ks : List KE}
theorem QB.drew (h : QB k w W A n c pos d lo hi A1 c1 ks) : QB k w W.drew A n c pos d lo hi A1 c1 ks := ⟨h.q.drew, h.l, h.s, h.z, h.o, h.b.drew, h.g⟩
theorem QB.ne (h : QB k w W A n c pos d lo hi A1 c1 ks) {q : Nat} (hq : q < k.low) : (Value.slice A1 ks.length c1).ownBlock ≠ some q := fun e => by have := (h.o.lt q e).1; omega
theorem QB.below {W' : World} (h : QB k w W A n c pos d lo hi A1 c1 ks) (hb : Below W.heap.size W W') : QB k w W' A n c pos d lo hi A1 c1 ks := ⟨h.q.below hb, h.l.below hb, h.s.below hb, h.z.below hb, own_below h.o hb, g_chain h.b hb, Nat.le_trans h.g hb.size⟩
theorem QB.read {W' : World} {p2 : Int} (h : QB k w W A n c pos d lo hi A1 c1 ks) (hk : k.Ok w) (hq : QR W' k.rr A n c p2) (hg : W.grownBy W' (some k.rr)) : QB k w W' A n c p2 d lo hi A1 c1 ks :=
  have h1 := hk.r; have h2 := hk.q; have h3 := hk.s; have h4 := hk.l; have h5 := hk.w
  ⟨hq, Blk.grown h.l hg (fun e => by injection e with e; omega), Blk.grown h.s hg (fun e => by injection e with e; omega), Blk.grown h.z hg (fun e => by injection e with e; omega), h.o.kept hg (.inr (h.ne (by omega))), h.b.grown hg h.b.size (fun q hq => by injection hq with hq; omega), Nat.le_trans h.g hg.size⟩
theorem QB.var {xs : List Nat} (h : QB k w W A n c pos d lo hi A1 c1 ks) (hk : k.Ok w) (hr : Rd w A n xs) (hn : n ≤ 2097152) (hnc : n ≤ c) :
    Calls Try.prog 75 #[.pointer (some ⟨k.rr, 0, none⟩)] W fun e w' => e = .returned (.int .i64 (gvN xs pos n)) ∧ QB k w w' A n c (nxV xs pos n) d lo hi A1 c1 ks ∧ W.grownBy w' (some k.rr) := by
  obtain ⟨a, bad, h1, h2⟩ := h.q.weak
  refine (rdVar h1 h2 (hr.below h.b) hn hnc).mono ?_
  rintro e w' ⟨rfl, h3, h4⟩
  exact ⟨rfl, h.read hk h3 h4, h4⟩
theorem QB.zig {xs : List Nat} (h : QB k w W A n c pos d lo hi A1 c1 ks) (hk : k.Ok w) (hr : Rd w A n xs) (hn : n ≤ 2097152) (hnc : n ≤ c) :
    Calls Try.prog 76 #[.pointer (some ⟨k.rr, 0, none⟩)] W fun e w' => e = .returned (.int .i64 (vZ xs pos n)) ∧ QB k w w' A n c (nxV xs pos n) d lo hi A1 c1 ks ∧ W.grownBy w' (some k.rr) := by
  obtain ⟨a, bad, h1, h2⟩ := h.q.weak
  refine (rdZig h1 h2 (hr.below h.b) hn hnc).mono ?_
  rintro e w' ⟨rfl, h3, h4⟩
  exact ⟨rfl, h.read hk h3 h4, h4⟩
/-- An edge more: the row has grown, the shard's slice is written; then the last edge is this one. -/
theorem QB.more {W2 : World} (h : QB k w W A n c pos d lo hi A1 c1 ks) (hk : k.Ok w) {A4 : Option Addr} {c4 : Nat} {e : KE} (hg : W.grownBy W2 (Value.slice A1 ks.length c1).ownBlock) (ho : W2.ownsRow k.low 77 5 (.slice A4 (ks.length + 1) c4) (ks.length + 1) (ks.flatMap KE.cells ++ [.int .i64 e.f, .int .i64 e.t, .int .i64 e.w, .int .i64 e.i, .int .i64 e.v])) :
    QB k w (lay5 (W2.setCell ⟨k.bs, 2, none⟩ (.slice A4 (ks.length + 1) c4)) k.bl 0 e) A n c pos e lo hi A4 c4 (ks ++ [e]) := by
  have h1 := hk.r; have h2 := hk.q; have h3 := hk.s; have h4 := hk.l; have h5 := hk.w
  have e1 : ks.length + 1 = (ks ++ [e]).length := by simp
  have n4 : (Value.slice A4 (ks.length + 1) c4).ownBlock ≠ some k.bs := fun e => by have := (ho.lt k.bs e).1; omega
  have n5 : (Value.slice A4 (ks.length + 1) c4).ownBlock ≠ some k.bl := fun e => by have := (ho.lt k.bl e).1; omega
  have u3 : KBlk W2 k.bl d := Blk.grown h.l hg (h.ne (by omega))
  have u4 : SBlk W2 k.bs lo hi A1 ks.length c1 := Blk.grown h.s hg (h.ne (by omega))
  have u5 : SBlk W2 k.br 0 0 none 0 0 := Blk.grown h.z hg (h.ne (by omega))
  have t3 : KBlk (W2.setCell ⟨k.bs, 2, none⟩ (.slice A4 (ks.length + 1) c4)) k.bl d := Blk.other u3 (p := ⟨k.bs, 2, none⟩) (Nat.ne_of_gt (by show k.bs < k.bl; omega)) _
  have t4 := SBlk.edges (A' := A4) (n' := ks.length + 1) (c' := c4) u4
  have t5 := Blk.other u5 (p := ⟨k.bs, 2, none⟩) (Nat.ne_of_lt (by show k.br < k.bs; omega)) (.slice A4 (ks.length + 1) c4)
  have tq := (h.q.grown hg (h.ne (by omega))).other (p := ⟨k.bs, 2, none⟩) (Nat.ne_of_lt (by show k.rr < k.bs; omega)) (.slice A4 (ks.length + 1) c4)
  have to := own_apart (i := 2) (u := .slice A4 (ks.length + 1) c4) ho n4
  refine ⟨?_, t3.lay e, ?_, Blk.lay5o t5 (Nat.ne_of_lt (by show k.br < k.bl; omega)) e, ?_, ?_, ?_⟩
  · obtain ⟨a, bad, q1, q2⟩ := tq
    exact ⟨a, bad, Blk.lay5o q1 (Nat.ne_of_lt (by show k.rr < k.bl; omega)) e, q2⟩
  · rw [← e1]; exact Blk.lay5o t4 (Nat.ne_of_lt (by show k.bs < k.bl; omega)) e
  · rw [← e1, ke_flat]; exact own_lay5 to n5 e
  · exact below_lay5 ((h.b.grown hg h.b.size (fun q hq => by have := (h.o.lt q hq).1; omega)).setCell (p := ⟨k.bs, 2, none⟩) (by show w.heap.size ≤ k.bs; omega) _) (by omega) e
  · have := h.g; have := hg.size; unfold Go.Proofs.Ytmbabbapcjphgaa.lay5; simp; omega
/-- Another edge's block is written. -/
theorem QB.lay (h : QB k w W A n c pos d lo hi A1 c1 ks) (hk : k.Ok w) {be : Nat} (hb : k.low ≤ be) (hn : (Value.slice A1 ks.length c1).ownBlock ≠ some be) (e : KE) : QB k w (lay5 W be 0 e) A n c pos d lo hi A1 c1 ks := by
  have h1 := hk.r; have h2 := hk.q; have h3 := hk.s; have h4 := hk.l; have h5 := hk.w
  refine ⟨?_, Blk.lay5o h.l (by omega) e, Blk.lay5o h.s (by omega) e, Blk.lay5o h.z (by omega) e, own_lay5 h.o hn e, below_lay5 h.b (by omega) e, ?_⟩
  · obtain ⟨a, bad, q1, q2⟩ := h.q
    exact ⟨a, bad, Blk.lay5o q1 (by omega) e, q2⟩
  · have := h.g; unfold Go.Proofs.Ytmbabbapcjphgaa.lay5; simp; omega
end
/-- A new edge's block, made somewhere among the readings. -/
def EZB (low : Nat) (W : World) (be : Nat) : Prop := KBlk W be ⟨0, 0, 0, 0, 0⟩ ∧ low ≤ be
theorem EZB.new (W : World) (low : Nat) (h : low ≤ W.heap.size) : EZB low (W.alloc (.cells #[.int .i64 0, .int .i64 0, .int .i64 0, .int .i64 0, .int .i64 0] 77)) W.heap.size := ⟨KBlk.new W ⟨0, 0, 0, 0, 0⟩, h⟩
theorem EZB.drew {low be : Nat} {W : World} (h : EZB low W be) : EZB low W.drew be := h
theorem EZB.grown {low be q : Nat} {W W' : World} (h : EZB low W be) (hg : W.grownBy W' (some q)) (hq : q < low) : EZB low W' be := ⟨Blk.grown h.1 hg (fun e => by injection e with e; have := h.2; omega), h.2⟩
end Go.Proofs.Ytmbabbapcjphgaa
namespace Go.Proofs.Ytmbabbapcjphgaa
open Go.RowKit

theorem rd_room {xs : List Nat} {n : Nat} (hl : xs.length = n) : ∀ (k : Nat) (s : RS), 0 ≤ (rdIt xs n k s).a → s.a + 4 * (k : Int) ≤ (rdIt xs n k s).a
  | 0, s, _ => by rw [rdIt]; omega
  | k + 1, s, h => by
    rw [rdIt] at h ⊢
    have h1 := rd_room hl k _ h
    obtain ⟨u1, _⟩ := rdIt_up hl k _ h
    obtain ⟨h3, h4, h5, h6, h7⟩ := rdStep_facts hl u1
    omega
theorem nxV_top {xs : List Nat} {n : Nat} (hl : xs.length = n) (a : Int) : nxV xs a n ≤ n := by
  rcases nxV_or (a := a) hl with h | h
  · omega
  · exact (nxV_facts hl (by omega)).2.2
theorem rd_top {xs : List Nat} {n : Nat} (hl : xs.length = n) : ∀ (k : Nat) (s : RS), s.a ≤ n → (rdIt xs n k s).a ≤ n
  | 0, _, h => h
  | k + 1, s, _ => by
    rw [rdIt]
    exact rd_top hl k _ (nxV_top hl _)
theorem rd_add (xs : List Nat) (n : Nat) : ∀ (j i : Nat) (s : RS), rdIt xs n (j + i) s = rdIt xs n i (rdIt xs n j s)
  | 0, i, s => by rw [Nat.zero_add, rdIt]
  | j + 1, i, s => by rw [show j + 1 + i = (j + i) + 1 by omega, rdIt, rd_add xs n j i, rdIt]
theorem rd_stuck {xs : List Nat} {n j K : Nat} {s : RS} (h : (rdIt xs n j s).a < 0) (hj : j ≤ K) : (rdIt xs n K s).a < 0 := by
  obtain ⟨i, rfl⟩ : ∃ i, K = j + i := ⟨K - j, by omega⟩
  rw [rd_add]
  exact rdIt_neg xs n i _ h

set_option maxRecDepth 20000 in
set_option maxHeartbeats 4000000 in
theorem specShardRead (A : Option Addr) (n c : Nat) (a : Int) (xs : List Nat) (w : World) (hr : Rd w A n xs) (hnc : n ≤ c) (hn : n ≤ 1048576) :
    Calls Try.prog 36 #[.slice A n c, .int .i64 a] w (MadeShP w (shrLo xs a n) (shrHi xs a n) (shrE xs a n) (shrP xs a n) (shrG xs a n)) := by
  obtain ⟨i0, hi0, hz0, hz1, hz2⟩ := info_parts Try.infoSEdge
  have HR := Lib.hid hr
  have HXL := Lib.hid hr.len
  have CR := Lib.hid (fun W rr p b q (h : LB W rr A n c p b) (h0 : PW p b q) (h2 : Rd W A n xs) => rdVar (xs := xs) h h0 h2 (by omega) hnc)
  have b1 := gvN_bounds xs a n
  have b2 := gvN_bounds xs (nxV xs a n) n
  have b3 := gvN_bounds xs (nxV xs (nxV xs a n) n) n
  have HTOP := Lib.hid (nxV_top (xs := xs) hr.len (nxV xs (nxV xs a n) n))
  have HUP : Hid (0 ≤ nxV xs (nxV xs (nxV xs a n) n) n → 0 ≤ a ∧ a ≤ nxV xs (nxV xs (nxV xs a n) n) n) := Lib.hid (fun h => by
    have h1 := nxV_facts hr.len h
    have h2 := nxV_facts hr.len h1.1
    have h3 := nxV_facts hr.len h2.1
    omega)
  have HRH : Hid (rdHead xs a n = ⟨gvN xs a n, gvN xs (nxV xs a n) n, gvN xs (nxV xs (nxV xs a n) n) n, ⟨nxV xs (nxV xs (nxV xs a n) n) n, 0, gvN xs a n, 0, 0⟩⟩) := rfl
  have K1 := Lib.hid (fun W rr (h : LB W rr A n c a false) (h2 : Rd W A n xs) => CR.out W rr a false a h (.inr ⟨rfl, rfl⟩) h2)
  have K2 : Hid (∀ W rr, QR W rr A n c (nxV xs a n) → Rd W A n xs → Calls Try.prog 75 #[.pointer (some ⟨rr, 0, none⟩)] W fun e w' => e = .returned (.int .i64 (gvN xs (nxV xs a n) n)) ∧ QR w' rr A n c (nxV xs (nxV xs a n) n) ∧ W.grownBy w' (some rr)) := Lib.hid (fun W rr h h2 => by
    obtain ⟨p, b, q1, q2⟩ := h.weak
    exact CR.out W rr p b _ q1 q2 h2)
  have K3 : Hid (∀ W rr, QR W rr A n c (nxV xs (nxV xs a n) n) → Rd W A n xs → Calls Try.prog 75 #[.pointer (some ⟨rr, 0, none⟩)] W fun e w' => e = .returned (.int .i64 (gvN xs (nxV xs (nxV xs a n) n) n)) ∧ QR w' rr A n c (nxV xs (nxV xs (nxV xs a n) n) n) ∧ W.grownBy w' (some rr)) := Lib.hid (fun W rr h h2 => by
    obtain ⟨p, b, q1, q2⟩ := h.weak
    exact CR.out W rr p b _ q1 q2 h2)
  generalize nxV xs (nxV xs (nxV xs a n) n) n = p3 at HRH K3 HTOP HUP
  generalize gvN xs (nxV xs (nxV xs a n) n) n = mm at HRH K3 b3
  generalize nxV xs (nxV xs a n) n = p2 at K2 K3
  generalize gvN xs (nxV xs a n) n = hh at HRH K2 b2
  generalize nxV xs a n = p1 at K1 K2
  generalize gvN xs a n = ll at HRH K1 b1
  obtain ⟨K, rfl⟩ : ∃ K : Nat, mm = (K : Int) := ⟨mm.toNat, by omega⟩
  have Z0 : Hid (SBlk ((w.alloc (.cells #[.int .i64 0, .int .i64 0, .slice none 0 0] 35)).alloc (.cells #[.slice A n c, .int .i64 a, .bool false] 107)) w.heap.size 0 0 none 0 0) := Lib.hid ((SBlk.new w 0 0 none 0 0).below (below_a1 _ _))
  have L0 : Hid (LB ((w.alloc (.cells #[.int .i64 0, .int .i64 0, .slice none 0 0] 35)).alloc (.cells #[.slice A n c, .int .i64 a, .bool false] 107)) (w.heap.size + 1) A n c a false) := Lib.hid (by
    have h := Blk.new (w.alloc (.cells #[.int .i64 0, .int .i64 0, .slice none 0 0] 35)) #[.slice A n c, .int .i64 a, .bool false] 107
    unfold LB
    simpa using h)
  have H0 := Lib.hid (below_a2 w (.cells #[.int .i64 0, .int .i64 0, .slice none 0 0] 35) (.cells #[.slice A n c, .int .i64 a, .bool false] 107))
  clear hr
  go_enter Try.func36, Try.ntmps36
  go_wp2_with fail
  refine (K1.out _ _ L0.out (HR.out.below H0.out)).mono ?_
  rintro e w1 ⟨rfl, hq, hg⟩
  have Q1 := Lib.hid hq
  have Z1 : Hid (SBlk w1 w.heap.size 0 0 none 0 0) := Lib.hid (Blk.grown Z0.out hg (by simp))
  have H1 : Hid (Below w.heap.size w w1) := Lib.hid (H0.out.grown hg H0.out.size (fun q hq => by injection hq with hq; omega))
  clear hq hg
  go_wp2_with fail
  refine (K2.out _ _ Q1.out (HR.out.below H1.out)).mono ?_
  rintro e w2 ⟨rfl, hq, hg⟩
  have Q2 := Lib.hid hq
  have Z2 : Hid (SBlk w2 w.heap.size 0 0 none 0 0) := Lib.hid (Blk.grown Z1.out hg (by simp))
  have H2 : Hid (Below w.heap.size w w2) := Lib.hid (H1.out.grown hg H1.out.size (fun q hq => by injection hq with hq; omega))
  have hl2 : w.heap.size + 1 < w2.heap.size := by obtain ⟨p, b, q1, _⟩ := hq; exact Blk.lt q1
  clear hq hg
  have BA4 := Lib.hid (below_a2 w2 (.cells #[.int .i64 ll, .int .i64 hh, .slice none 0 0] 35) (.cells #[.int .i64 0, .int .i64 ll, .int .i64 0, .int .i64 0, .int .i64 0] 77))
  have Q4 := Lib.hid (Q2.out.below BA4.out)
  have Z4 := Lib.hid (Z2.out.below BA4.out)
  have H4 := Lib.hid (g_chain H2.out BA4.out)
  have S4 : Hid (SBlk ((w2.alloc (.cells #[.int .i64 ll, .int .i64 hh, .slice none 0 0] 35)).alloc (.cells #[.int .i64 0, .int .i64 ll, .int .i64 0, .int .i64 0, .int .i64 0] 77)) w2.heap.size ll hh none 0 0) := Lib.hid ((SBlk.new w2 ll hh none 0 0).below (below_a1 _ _))
  have E4 : Hid (KBlk ((w2.alloc (.cells #[.int .i64 ll, .int .i64 hh, .slice none 0 0] 35)).alloc (.cells #[.int .i64 0, .int .i64 ll, .int .i64 0, .int .i64 0, .int .i64 0] 77)) (w2.heap.size + 1) ⟨0, ll, 0, 0, 0⟩) := Lib.hid (by
    have h := KBlk.new (w2.alloc (.cells #[.int .i64 ll, .int .i64 hh, .slice none 0 0] 35)) ⟨0, ll, 0, 0, 0⟩
    simpa using h)
  go_wp2_with fail
  refine (K3.out _ _ Q4.out (HR.out.below H4.out)).mono ?_
  rintro e w5 ⟨rfl, hq, hg⟩
  have hl5 : w2.heap.size + 1 < w5.heap.size := by have h1 := hg.size; have h2 := Blk.lt E4.out; omega
  obtain ⟨s0, hs0⟩ : ∃ s0 : RS, s0 = ⟨p3, 0, ll, 0, 0⟩ := ⟨_, rfl⟩
  have HKO : Hid (QBk.Ok (⟨w.heap.size + 1, w2.heap.size + 1, w2.heap.size, w.heap.size, w5.heap.size⟩ : QBk) w) := Lib.hid ⟨Nat.le_refl _, by show w.heap.size < w.heap.size + 1; omega, hl2, by show w2.heap.size < w2.heap.size + 1; omega, hl5⟩
  have QB0 : Hid (QB (⟨w.heap.size + 1, w2.heap.size + 1, w2.heap.size, w.heap.size, w5.heap.size⟩ : QBk) w w5 A n c (rdIt xs n 0 s0).a (rdIt xs n 0 s0).e ll hh none 0 (esR xs n 0 s0)) := Lib.hid (by
    rw [hs0]
    exact ⟨hq, Blk.grown E4.out hg (fun e => by simp at e; omega), Blk.grown S4.out hg (fun e => by simp at e; omega), Blk.grown Z4.out hg (fun e => by simp at e), World.ownsRow_nil _ _ _ _, H4.out.grown hg H4.out.size (fun q hq => by injection hq with hq; omega), Nat.le_refl _⟩)
  have HS0 := Lib.hid hs0
  have RVar : Hid (∀ W p d A1 c1 ks, QB (⟨w.heap.size + 1, w2.heap.size + 1, w2.heap.size, w.heap.size, w5.heap.size⟩ : QBk) w W A n c p d ll hh A1 c1 ks → Calls Try.prog 75 #[.pointer (some ⟨w.heap.size + 1, 0, none⟩)] W fun e w' => e = .returned (.int .i64 (gvN xs p n)) ∧ QB (⟨w.heap.size + 1, w2.heap.size + 1, w2.heap.size, w.heap.size, w5.heap.size⟩ : QBk) w w' A n c (nxV xs p n) d ll hh A1 c1 ks ∧ W.grownBy w' (some (w.heap.size + 1))) := Lib.hid (fun W p d A1 c1 ks h => h.var HKO.out HR.out (by omega) hnc)
  have RZig : Hid (∀ W p d A1 c1 ks, QB (⟨w.heap.size + 1, w2.heap.size + 1, w2.heap.size, w.heap.size, w5.heap.size⟩ : QBk) w W A n c p d ll hh A1 c1 ks → Calls Try.prog 76 #[.pointer (some ⟨w.heap.size + 1, 0, none⟩)] W fun e w' => e = .returned (.int .i64 (vZ xs p n)) ∧ QB (⟨w.heap.size + 1, w2.heap.size + 1, w2.heap.size, w.heap.size, w5.heap.size⟩ : QBk) w w' A n c (nxV xs p n) d ll hh A1 c1 ks ∧ W.grownBy w' (some (w.heap.size + 1))) := Lib.hid (fun W p d A1 c1 ks h => h.zig HKO.out HR.out (by omega) hnc)
  clear hs0 hq hg Q4 Z4 H4 S4 E4 BA4 Q2 Z2 H2 Q1 Z1 H1
  go_wp2
  go_loopw [10, 11] (fun q _ wr => ∃ (j r : Nat) (A1 : Option Addr) (c1 : Nat), r + j = K ∧ q = .int .i64 (r : Int) ∧ Hid (4 * j ≤ n + 4) ∧ Hid (QB (⟨w.heap.size + 1, w2.heap.size + 1, w2.heap.size, w.heap.size, w5.heap.size⟩ : QBk) w wr A n c (rdIt xs n j s0).a (rdIt xs n j s0).e ll hh A1 c1 (esR xs n j s0))) (fun q _ _ => (intOf q).toNat)
  case atStart => exact ⟨0, K, none, 0, by omega, rfl, Lib.hid (by omega), QB0⟩
  case round =>
    clear QB0
    obtain ⟨j, r, A1, c1, hj, rfl, hroom, hrb⟩ := hrel
    obtain ⟨pa, bad, hlb, hpa⟩ := hrb.out.q
    have HLB : Hid (LB wr (w.heap.size + 1) A n c pa bad) := Lib.hid hlb
    have HPA := Lib.hid hpa
    clear hlb
    by_cases hgo : 0 < r ∧ bad = false
    · obtain ⟨hr0, rfl⟩ := hgo
      have hposn : Hid (4 * (j + 1) ≤ n + 4) := Lib.hid (by
        rcases hpa with ⟨hp, _⟩ | ⟨_, hp2, hp3⟩
        · cases hp
        · have h1 := rd_room HXL.out j s0 (by omega)
          have h2 := rd_top HXL.out j s0 (by rw [HS0.out]; exact HTOP.out)
          by_cases hs : 0 ≤ s0.a
          · omega
          · have h3 := rdIt_neg xs n j s0 (by omega)
            omega)
      have hel : (esR xs n j s0).length ≤ 1048576 := by rw [esR_len]; have := hroom.out; omega
      have HNE := Lib.hid (esR_snoc xs n j s0)
      have HNI := Lib.hid (rdIt_succ xs n j s0)
      generalize esR xs n j s0 = ks at hel HNE hrb
      generalize hs : rdIt xs n j s0 = s at HNE HNI hrb
      have HNS : Hid (rdStep xs n s = ⟨nxV xs (nxV xs (nxV xs (nxV xs s.a n) n) n) n, IntKind.i64.wrap (s.f + gvN xs s.a n), IntKind.i64.wrap (s.t + vZ xs (nxV xs s.a n) n), gvN xs (nxV xs (nxV xs s.a n) n) n, IntKind.i64.wrap (s.i + vZ xs (nxV xs (nxV xs (nxV xs s.a n) n) n) n)⟩) := Lib.hid rfl
      have C1 := Lib.hid (fun W d (h : QB (⟨w.heap.size + 1, w2.heap.size + 1, w2.heap.size, w.heap.size, w5.heap.size⟩ : QBk) w W A n c s.a d ll hh A1 c1 ks) => RVar.out W s.a d A1 c1 ks h)
      generalize nxV xs s.a n = a1 at C1 HNS
      have C2 := Lib.hid (fun W d (h : QB (⟨w.heap.size + 1, w2.heap.size + 1, w2.heap.size, w.heap.size, w5.heap.size⟩ : QBk) w W A n c a1 d ll hh A1 c1 ks) => RZig.out W a1 d A1 c1 ks h)
      generalize nxV xs a1 n = a2 at C2 HNS
      have C3 := Lib.hid (fun W d (h : QB (⟨w.heap.size + 1, w2.heap.size + 1, w2.heap.size, w.heap.size, w5.heap.size⟩ : QBk) w W A n c a2 d ll hh A1 c1 ks) => RVar.out W a2 d A1 c1 ks h)
      generalize nxV xs a2 n = a3 at C3 HNS
      have C4 := Lib.hid (fun W d (h : QB (⟨w.heap.size + 1, w2.heap.size + 1, w2.heap.size, w.heap.size, w5.heap.size⟩ : QBk) w W A n c a3 d ll hh A1 c1 ks) => RZig.out W a3 d A1 c1 ks h)
      generalize nxV xs a3 n = a4 at C4 HNS
      generalize gvN xs s.a n = v1 at C1 HNS
      generalize vZ xs a1 n = v2 at C2 HNS
      generalize gvN xs a2 n = v3 at C3 HNS
      generalize vZ xs a3 n = v4 at C4 HNS
      obtain ⟨sa, sf, st, sw, si⟩ := s
      simp only [RS.e] at hrb
      clear hpa HPA
      have KP : Hid (∀ W : World, KBlk W (w2.heap.size + 1) ⟨sf, st, sw, si, 0⟩ → (W.cell? ⟨w2.heap.size + 1, 0, none⟩ = some (.int .i64 sf) ∧ W.cell? ⟨w2.heap.size + 1, 1, none⟩ = some (.int .i64 st) ∧ W.cell? ⟨w2.heap.size + 1, 3, none⟩ = some (.int .i64 si))) := Lib.hid (fun W h => ⟨h.cells.1, h.cells.2.1, h.cells.2.2.2.1⟩)
      have KP2 : Hid (∀ W : World, Blk W (w2.heap.size + 1) #[.int .i64 sf, .int .i64 st, .int .i64 sw, .int .i64 si, .int .i64 0] 77 → (W.cell? ⟨w2.heap.size + 1, 0, none⟩ = some (.int .i64 sf) ∧ W.cell? ⟨w2.heap.size + 1, 1, none⟩ = some (.int .i64 st) ∧ W.cell? ⟨w2.heap.size + 1, 3, none⟩ = some (.int .i64 si))) := Lib.hid (fun W h => KP.out W h)
      obtain ⟨l0, l1, l2⟩ := HLB.out.cells
      obtain ⟨q0, q1, q2, q3, q4⟩ := (show KBlk wr (w2.heap.size + 1) ⟨sf, st, sw, si, 0⟩ from hrb.out.l).cells
      have QD := Lib.hid hrb.out.drew
      go_wp2
      have HLT : Hid (w2.heap.size + 1 < wr.heap.size) := Lib.hid (Blk.lt hrb.out.l)
      have HRR : Hid (w.heap.size + 1 < wr.heap.size) := Lib.hid (Blk.lt HLB.out)
      have HZ1 : Hid (wr.heap.size ≤ wr.heap.size) := Lib.hid (Nat.le_refl _)
      have HG0 : Hid (w5.heap.size ≤ wr.heap.size) := Lib.hid hrb.out.g
      have HOB : Hid (∀ q, wr.heap.size ≤ q → (Value.slice A1 ks.length c1).ownBlock ≠ some q) := Lib.hid (fun q hq e => by have := (hrb.out.o.lt q e).2; omega)
      go_region_held3 (fun W => W.cell? ⟨w2.heap.size + 1, 0, none⟩ = some (.int .i64 sf) ∧ W.cell? ⟨w2.heap.size + 1, 1, none⟩ = some (.int .i64 st) ∧ W.cell? ⟨w2.heap.size + 1, 3, none⟩ = some (.int .i64 si))
        (first
          | with_reducible exact KP.out _ Q4.out.l
          | with_reducible exact KP.out _ Q3.out.l
          | with_reducible exact KP.out _ Q2.out.l
          | with_reducible exact KP.out _ Q1.out.l
          | with_reducible exact KP.out _ QD.out.l
          | with_reducible exact KP.out _ (Q4.out.below (below_a1 _ _)).l
          | with_reducible exact KP.out _ (Q3.out.below (below_a1 _ _)).l
          | with_reducible exact KP.out _ (Q2.out.below (below_a1 _ _)).l
          | with_reducible exact KP.out _ (Q1.out.below (below_a1 _ _)).l
          | with_reducible exact KP.out _ (QD.out.below (below_a1 _ _)).l
          | with_reducible exact KP.out _ ((hrb.out.below (below_a1 _ _)).drew).l
          | exact KP2.out _ (Blk.other (Blk.other (Blk.other (Blk.other (Blk.other Q4.out.l (p := ⟨_, 0, none⟩) HBE.out _) (p := ⟨_, 1, none⟩) HBE.out _) (p := ⟨_, 2, none⟩) HBE.out _) (p := ⟨_, 3, none⟩) HBE.out _) (p := ⟨_, 4, none⟩) HBE.out _))
        (first
          | (go_at_call 75; ((with_reducible refine (C1.out _ _ (by first | exact hrb.out | exact QD.out | exact hrb.out.below (below_a1 _ _) | exact QD.out.below (below_a1 _ _) | exact (hrb.out.below (below_a1 _ _)).drew)).mono ?_)); rintro e wa ⟨rfl, hq, hg⟩; have Q1 := Lib.hid hq; have HZ2 := Lib.hid (Nat.le_trans (by first | exact HZ1.out | exact Nat.le_trans HZ1.out (below_a1 _ _).size) hg.size); (first | ((with_reducible have EZ := Lib.hid (EZB.grown EZ.out hg HRR.out))) | ((with_reducible have EZ := Lib.hid (EZB.grown (EZB.new wr wr.heap.size (Nat.le_refl _)) hg HRR.out))) | ((with_reducible have EZ := Lib.hid (EZB.grown (EZB.new wr.drew wr.heap.size (Nat.le_refl _)) hg HRR.out))) | ((with_reducible have EZ := Lib.hid (EZB.grown ((EZB.new wr wr.heap.size (Nat.le_refl _)).drew) hg HRR.out))) | skip); obtain ⟨r0, r1, r2, r3, r4⟩ := (show KBlk wa (w2.heap.size + 1) ⟨sf, st, sw, si, 0⟩ from hq.l).cells; (first | (obtain ⟨z0, z1, z2, z3, z4⟩ := EZ.out.1.cells; have y0 := Blk.frozen EZ.out.1 0; have y1 := Blk.frozen EZ.out.1 1; have y2 := Blk.frozen EZ.out.1 2; have y3 := Blk.frozen EZ.out.1 3; have y4 := Blk.frozen EZ.out.1 4; have HBE := Lib.hid (Nat.ne_of_lt (Nat.lt_of_lt_of_le HLT.out EZ.out.2))) | skip); have HZ1 := HZ2; clear hq hg)
          | (go_at_call 76; ((with_reducible refine (C2.out _ _ (by first | exact Q1.out | exact Q1.out.below (below_a1 _ _))).mono ?_)); rintro e wb ⟨rfl, hq, hg⟩; have Q2 := Lib.hid hq; have HZ2 := Lib.hid (Nat.le_trans (by first | exact HZ1.out | exact Nat.le_trans HZ1.out (below_a1 _ _).size) hg.size); (first | ((with_reducible have EZ := Lib.hid (EZB.grown EZ.out hg HRR.out))) | ((with_reducible have EZ := Lib.hid (EZB.grown (EZB.new wa wr.heap.size HZ1.out) hg HRR.out))) | skip); obtain ⟨r0, r1, r2, r3, r4⟩ := (show KBlk wb (w2.heap.size + 1) ⟨sf, st, sw, si, 0⟩ from hq.l).cells; (first | (obtain ⟨z0, z1, z2, z3, z4⟩ := EZ.out.1.cells; have y0 := Blk.frozen EZ.out.1 0; have y1 := Blk.frozen EZ.out.1 1; have y2 := Blk.frozen EZ.out.1 2; have y3 := Blk.frozen EZ.out.1 3; have y4 := Blk.frozen EZ.out.1 4; have HBE := Lib.hid (Nat.ne_of_lt (Nat.lt_of_lt_of_le HLT.out EZ.out.2))) | skip); have HZ1 := HZ2; clear hq hg)
          | (go_at_call 75; ((with_reducible refine (C3.out _ _ (by first | exact Q2.out | exact Q2.out.below (below_a1 _ _))).mono ?_)); rintro e wc ⟨rfl, hq, hg⟩; have Q3 := Lib.hid hq; have HZ2 := Lib.hid (Nat.le_trans (by first | exact HZ1.out | exact Nat.le_trans HZ1.out (below_a1 _ _).size) hg.size); (first | ((with_reducible have EZ := Lib.hid (EZB.grown EZ.out hg HRR.out))) | ((with_reducible have EZ := Lib.hid (EZB.grown (EZB.new wb wr.heap.size HZ1.out) hg HRR.out))) | skip); obtain ⟨r0, r1, r2, r3, r4⟩ := (show KBlk wc (w2.heap.size + 1) ⟨sf, st, sw, si, 0⟩ from hq.l).cells; (first | (obtain ⟨z0, z1, z2, z3, z4⟩ := EZ.out.1.cells; have y0 := Blk.frozen EZ.out.1 0; have y1 := Blk.frozen EZ.out.1 1; have y2 := Blk.frozen EZ.out.1 2; have y3 := Blk.frozen EZ.out.1 3; have y4 := Blk.frozen EZ.out.1 4; have HBE := Lib.hid (Nat.ne_of_lt (Nat.lt_of_lt_of_le HLT.out EZ.out.2))) | skip); have HZ1 := HZ2; clear hq hg)
          | (go_at_call 76; ((with_reducible refine (C4.out _ _ (by first | exact Q3.out | exact Q3.out.below (below_a1 _ _))).mono ?_)); rintro e wd ⟨rfl, hq, hg⟩; have Q4 := Lib.hid hq; have HZ2 := Lib.hid (Nat.le_trans (by first | exact HZ1.out | exact Nat.le_trans HZ1.out (below_a1 _ _).size) hg.size); (first | ((with_reducible have EZ := Lib.hid (EZB.grown EZ.out hg HRR.out))) | ((with_reducible have EZ := Lib.hid (EZB.grown (EZB.new wc wr.heap.size HZ1.out) hg HRR.out))) | skip); obtain ⟨r0, r1, r2, r3, r4⟩ := (show KBlk wd (w2.heap.size + 1) ⟨sf, st, sw, si, 0⟩ from hq.l).cells; (first | (obtain ⟨z0, z1, z2, z3, z4⟩ := EZ.out.1.cells; have y0 := Blk.frozen EZ.out.1 0; have y1 := Blk.frozen EZ.out.1 1; have y2 := Blk.frozen EZ.out.1 2; have y3 := Blk.frozen EZ.out.1 3; have y4 := Blk.frozen EZ.out.1 4; have HBE := Lib.hid (Nat.ne_of_lt (Nat.lt_of_lt_of_le HLT.out EZ.out.2))) | skip); have HZ1 := HZ2; clear hq hg))
      all_goals
        (first
          | (generalize hW : (wd.alloc (.cells #[.int .i64 (IntKind.i64.wrap (sf + v1)), .int .i64 (IntKind.i64.wrap (st + v2)), .int .i64 v3, .int .i64 (IntKind.i64.wrap (si + v4)), .int .i64 0] 77)) = W6; have EF : Hid (KBlk W6 wd.heap.size ⟨IntKind.i64.wrap (sf + v1), IntKind.i64.wrap (st + v2), v3, IntKind.i64.wrap (si + v4), 0⟩) := Lib.hid (by rw [← hW]; exact KBlk.new wd ⟨IntKind.i64.wrap (sf + v1), IntKind.i64.wrap (st + v2), v3, IntKind.i64.wrap (si + v4), 0⟩); have QF : Hid (QB (⟨w.heap.size + 1, w2.heap.size + 1, w2.heap.size, w.heap.size, w5.heap.size⟩ : QBk) w W6 A n c a4 ⟨sf, st, sw, si, 0⟩ ll hh A1 c1 ks) := Lib.hid (by rw [← hW]; exact Q4.out.below (below_a1 _ _)); have HBF : Hid (wr.heap.size ≤ wd.heap.size ∧ wd.heap.size < W6.heap.size) := Lib.hid ⟨HZ1.out, by rw [← hW]; simp⟩; clear hW; obtain ⟨be, hbe⟩ : ∃ be, be = wd.heap.size := ⟨_, rfl⟩; rw [← hbe] at EF HBF ⊢; clear hbe)
          | (generalize hW : (((((wd.setCell ⟨wc.heap.size, 0, none⟩ (.int .i64 (IntKind.i64.wrap (sf + v1)))).setCell ⟨wc.heap.size, 1, none⟩ (.int .i64 (IntKind.i64.wrap (st + v2)))).setCell ⟨wc.heap.size, 2, none⟩ (.int .i64 v3)).setCell ⟨wc.heap.size, 3, none⟩ (.int .i64 (IntKind.i64.wrap (si + v4)))).setCell ⟨wc.heap.size, 4, none⟩ (.int .i64 0)) = W6; have EX : Hid (EZB wr.heap.size wd wc.heap.size) := EZ; have EF : Hid (KBlk W6 wc.heap.size ⟨IntKind.i64.wrap (sf + v1), IntKind.i64.wrap (st + v2), v3, IntKind.i64.wrap (si + v4), 0⟩) := Lib.hid (by rw [← hW]; exact KBlk.lay EX.out.1 ⟨IntKind.i64.wrap (sf + v1), IntKind.i64.wrap (st + v2), v3, IntKind.i64.wrap (si + v4), 0⟩); have QF : Hid (QB (⟨w.heap.size + 1, w2.heap.size + 1, w2.heap.size, w.heap.size, w5.heap.size⟩ : QBk) w W6 A n c a4 ⟨sf, st, sw, si, 0⟩ ll hh A1 c1 ks) := Lib.hid (by rw [← hW]; exact Q4.out.lay HKO.out (Nat.le_trans HG0.out EX.out.2) (HOB.out _ EX.out.2) ⟨IntKind.i64.wrap (sf + v1), IntKind.i64.wrap (st + v2), v3, IntKind.i64.wrap (si + v4), 0⟩); have HBF : Hid (wr.heap.size ≤ wc.heap.size ∧ wc.heap.size < W6.heap.size) := Lib.hid ⟨EX.out.2, Blk.lt EF.out⟩; clear hW EX; obtain ⟨be, hbe⟩ : ∃ be, be = wc.heap.size := ⟨_, rfl⟩; rw [← hbe] at EF ⊢; simp only [← hbe] at HBF; clear hbe)
          | (generalize hW : (((((wd.setCell ⟨wb.heap.size, 0, none⟩ (.int .i64 (IntKind.i64.wrap (sf + v1)))).setCell ⟨wb.heap.size, 1, none⟩ (.int .i64 (IntKind.i64.wrap (st + v2)))).setCell ⟨wb.heap.size, 2, none⟩ (.int .i64 v3)).setCell ⟨wb.heap.size, 3, none⟩ (.int .i64 (IntKind.i64.wrap (si + v4)))).setCell ⟨wb.heap.size, 4, none⟩ (.int .i64 0)) = W6; have EX : Hid (EZB wr.heap.size wd wb.heap.size) := EZ; have EF : Hid (KBlk W6 wb.heap.size ⟨IntKind.i64.wrap (sf + v1), IntKind.i64.wrap (st + v2), v3, IntKind.i64.wrap (si + v4), 0⟩) := Lib.hid (by rw [← hW]; exact KBlk.lay EX.out.1 ⟨IntKind.i64.wrap (sf + v1), IntKind.i64.wrap (st + v2), v3, IntKind.i64.wrap (si + v4), 0⟩); have QF : Hid (QB (⟨w.heap.size + 1, w2.heap.size + 1, w2.heap.size, w.heap.size, w5.heap.size⟩ : QBk) w W6 A n c a4 ⟨sf, st, sw, si, 0⟩ ll hh A1 c1 ks) := Lib.hid (by rw [← hW]; exact Q4.out.lay HKO.out (Nat.le_trans HG0.out EX.out.2) (HOB.out _ EX.out.2) ⟨IntKind.i64.wrap (sf + v1), IntKind.i64.wrap (st + v2), v3, IntKind.i64.wrap (si + v4), 0⟩); have HBF : Hid (wr.heap.size ≤ wb.heap.size ∧ wb.heap.size < W6.heap.size) := Lib.hid ⟨EX.out.2, Blk.lt EF.out⟩; clear hW EX; obtain ⟨be, hbe⟩ : ∃ be, be = wb.heap.size := ⟨_, rfl⟩; rw [← hbe] at EF ⊢; simp only [← hbe] at HBF; clear hbe)
          | (generalize hW : (((((wd.setCell ⟨wa.heap.size, 0, none⟩ (.int .i64 (IntKind.i64.wrap (sf + v1)))).setCell ⟨wa.heap.size, 1, none⟩ (.int .i64 (IntKind.i64.wrap (st + v2)))).setCell ⟨wa.heap.size, 2, none⟩ (.int .i64 v3)).setCell ⟨wa.heap.size, 3, none⟩ (.int .i64 (IntKind.i64.wrap (si + v4)))).setCell ⟨wa.heap.size, 4, none⟩ (.int .i64 0)) = W6; have EX : Hid (EZB wr.heap.size wd wa.heap.size) := EZ; have EF : Hid (KBlk W6 wa.heap.size ⟨IntKind.i64.wrap (sf + v1), IntKind.i64.wrap (st + v2), v3, IntKind.i64.wrap (si + v4), 0⟩) := Lib.hid (by rw [← hW]; exact KBlk.lay EX.out.1 ⟨IntKind.i64.wrap (sf + v1), IntKind.i64.wrap (st + v2), v3, IntKind.i64.wrap (si + v4), 0⟩); have QF : Hid (QB (⟨w.heap.size + 1, w2.heap.size + 1, w2.heap.size, w.heap.size, w5.heap.size⟩ : QBk) w W6 A n c a4 ⟨sf, st, sw, si, 0⟩ ll hh A1 c1 ks) := Lib.hid (by rw [← hW]; exact Q4.out.lay HKO.out (Nat.le_trans HG0.out EX.out.2) (HOB.out _ EX.out.2) ⟨IntKind.i64.wrap (sf + v1), IntKind.i64.wrap (st + v2), v3, IntKind.i64.wrap (si + v4), 0⟩); have HBF : Hid (wr.heap.size ≤ wa.heap.size ∧ wa.heap.size < W6.heap.size) := Lib.hid ⟨EX.out.2, Blk.lt EF.out⟩; clear hW EX; obtain ⟨be, hbe⟩ : ∃ be, be = wa.heap.size := ⟨_, rfl⟩; rw [← hbe] at EF ⊢; simp only [← hbe] at HBF; clear hbe)
          | (generalize hW : (((((wd.setCell ⟨wr.heap.size, 0, none⟩ (.int .i64 (IntKind.i64.wrap (sf + v1)))).setCell ⟨wr.heap.size, 1, none⟩ (.int .i64 (IntKind.i64.wrap (st + v2)))).setCell ⟨wr.heap.size, 2, none⟩ (.int .i64 v3)).setCell ⟨wr.heap.size, 3, none⟩ (.int .i64 (IntKind.i64.wrap (si + v4)))).setCell ⟨wr.heap.size, 4, none⟩ (.int .i64 0)) = W6; have EX : Hid (EZB wr.heap.size wd wr.heap.size) := EZ; have EF : Hid (KBlk W6 wr.heap.size ⟨IntKind.i64.wrap (sf + v1), IntKind.i64.wrap (st + v2), v3, IntKind.i64.wrap (si + v4), 0⟩) := Lib.hid (by rw [← hW]; exact KBlk.lay EX.out.1 ⟨IntKind.i64.wrap (sf + v1), IntKind.i64.wrap (st + v2), v3, IntKind.i64.wrap (si + v4), 0⟩); have QF : Hid (QB (⟨w.heap.size + 1, w2.heap.size + 1, w2.heap.size, w.heap.size, w5.heap.size⟩ : QBk) w W6 A n c a4 ⟨sf, st, sw, si, 0⟩ ll hh A1 c1 ks) := Lib.hid (by rw [← hW]; exact Q4.out.lay HKO.out (Nat.le_trans HG0.out EX.out.2) (HOB.out _ EX.out.2) ⟨IntKind.i64.wrap (sf + v1), IntKind.i64.wrap (st + v2), v3, IntKind.i64.wrap (si + v4), 0⟩); have HBF : Hid (wr.heap.size ≤ wr.heap.size ∧ wr.heap.size < W6.heap.size) := Lib.hid ⟨EX.out.2, Blk.lt EF.out⟩; clear hW EX; obtain ⟨be, hbe⟩ : ∃ be, be = wr.heap.size := ⟨_, rfl⟩; rw [← hbe] at EF ⊢; have HBF : Hid (wr.heap.size ≤ be ∧ be < W6.heap.size) := Lib.hid ⟨Nat.le_of_eq hbe.symm, by rw [hbe]; exact HBF.out.2⟩; clear hbe))
        clear r0 r1 r2 r3 r4 l0 l1 l2 q0 q1 q2 q3 q4
        try clear z0 z1 z2 z3 z4 y0 y1 y2 y3 y4
        generalize IntKind.i64.wrap (sf + v1) = nf at HNS EF ⊢
        generalize IntKind.i64.wrap (st + v2) = nt at HNS EF ⊢
        generalize IntKind.i64.wrap (si + v4) = ni at HNS EF ⊢
        have hb1 : wr.heap.size ≤ be := HBF.out.1
        have hb2 : be < W6.heap.size := HBF.out.2
        have hb3 : w5.heap.size ≤ wr.heap.size := HG0.out
        have hb4 : w5.heap.size ≤ W6.heap.size := QF.out.g
        have HBA := Lib.hid (below_a1 W6 (.cells #[.int .i64 nf, .int .i64 nt, .int .i64 v3, .int .i64 ni, .int .i64 0] 77))
        have RH := Lib.hid (QF.out.below HBA.out)
        have HON := Lib.hid (five_cells ⟨nf, nt, v3, ni, 0⟩)
        obtain ⟨q0, q1, q2, q3, q4⟩ := (show KBlk W6 be ⟨nf, nt, v3, ni, 0⟩ from EF.out).cells
        obtain ⟨p0, p1, p2⟩ := (show SBlk W6 w2.heap.size ll hh A1 ks.length c1 from QF.out.s).cells
        have HOW : Hid ((W6.alloc (.cells #[.int .i64 nf, .int .i64 nt, .int .i64 v3, .int .i64 ni, .int .i64 0] 77)).ownsRow w5.heap.size 77 5 (.slice A1 ks.length c1) ks.length (ks.flatMap KE.cells)) := Lib.hid RH.out.o
        have HFV := Lib.hid (five_reads W6 ⟨nf, nt, v3, ni, 0⟩ 77 W6.heap.size rfl)
        go_wp2_with (at_builtin; refine wpList_append_any _ rfl (.tmp 58) (.tmp 60) _ rfl w5.heap.size 77 i0 _ 5 40 Try.underlying33 hi0 hz0 hz1 hz2 rfl (by omega) (.slice A1 ks.length c1) ks.length (ks.flatMap KE.cells) rfl HOW.out (W6.heap.size + 1) (some ⟨W6.heap.size, 0, none⟩) 1 1 [.int .i64 nf, .int .i64 nt, .int .i64 v3, .int .i64 ni, .int .i64 0] rfl HFV.out HON.out (by simp only [maxLen]; omega) (by omega) (by simp; omega) ?_)
        intro v9 w9 hown9 hg9 _
        obtain ⟨A9, c9, rfl⟩ := pk_form hown9
        have E9 : Hid (KBlk w9 be ⟨nf, nt, v3, ni, 0⟩) := Lib.hid (Blk.grown (EF.out.below HBA.out) hg9 (HOB.out _ hb1))
        have S9 : Hid (SBlk w9 w2.heap.size ll hh A1 ks.length c1) := Lib.hid (Blk.grown RH.out.s hg9 (RH.out.ne (by show w2.heap.size < w5.heap.size; omega)))
        have L9 : Hid (KBlk w9 (w2.heap.size + 1) ⟨sf, st, sw, si, 0⟩) := Lib.hid (Blk.grown RH.out.l hg9 (RH.out.ne (by show w2.heap.size + 1 < w5.heap.size; omega)))
        have RI := Lib.hid (RH.out.more HKO.out (e := ⟨nf, nt, v3, ni, 0⟩) hg9 hown9)
        have sf2 := Blk.frozen S9.out 2
        obtain ⟨p0', p1', p2'⟩ := S9.out.cells
        have g0 := Blk.frozen L9.out 0
        have g1 := Blk.frozen L9.out 1
        have g2 := Blk.frozen L9.out 2
        have g3 := Blk.frozen L9.out 3
        have g4 := Blk.frozen L9.out 4
        obtain ⟨u0, u1, u2, u3, u4⟩ := L9.out.cells
        obtain ⟨x0, x1, x2, x3, x4⟩ := E9.out.cells
        have HRN : Hid (QB (⟨w.heap.size + 1, w2.heap.size + 1, w2.heap.size, w.heap.size, w5.heap.size⟩ : QBk) w (lay5 (w9.setCell ⟨w2.heap.size, 2, none⟩ (.slice A9 (ks.length + 1) c9)) (w2.heap.size + 1) 0 ⟨nf, nt, v3, ni, 0⟩) A n c (rdIt xs n (j + 1) s0).a (rdIt xs n (j + 1) s0).e ll hh A9 c9 (esR xs n (j + 1) s0)) := Lib.hid (by rw [HNI.out, HNE.out, HNS.out]; exact RI.out)
        obtain ⟨r1, hr1⟩ : ∃ r1 : Nat, r = r1 + 1 := ⟨r - 1, by omega⟩
        have hr2 : (r : Int) - 1 = (r1 : Int) := by omega
        have hr3 : r1 ≤ 281474976710655 := by omega
        have HJ : Hid (r1 + (j + 1) = K) := Lib.hid (by omega)
        have hne9 : w2.heap.size + 1 < be := by omega
        clear q0 q1 q2 q3 q4 p0 p1 p2 hown9 hg9
        go_wp2
        go_roundw
        case rel => exact ⟨j + 1, r1, A9, c9, HJ.out, by first | rfl | go_num | (rw [hr2]; go_num), hposn, HRN⟩
        case measure => simp [intOf]; omega
    · have hel : (esR xs n j s0).length ≤ 1048576 := by rw [esR_len]; have := hroom.out; omega
      have HLo : Hid ((rdHead xs a n).lo = ll ∧ (rdHead xs a n).hi = hh ∧ (rdHead xs a n).m = (K : Int)) := Lib.hid (by rw [HRH.out]; exact ⟨rfl, rfl, rfl⟩)
      have HZz : Hid ((rdHead xs a n).z xs n = (rdIt xs n K s0).a) := Lib.hid (by unfold RH.z; rw [HRH.out, ← HS0.out]; simp)
      have HEs : Hid ((rdHead xs a n).es xs n = esR xs n K s0) := Lib.hid (by unfold RH.es; rw [HRH.out, ← HS0.out]; simp)
      obtain ⟨q0, q1, q2⟩ := HLB.out.cells
      obtain ⟨p0, p1, p2'⟩ := (show SBlk wr w2.heap.size ll hh A1 (esR xs n j s0).length c1 from hrb.out.s).cells
      rcases hpa with ⟨rfl, hpz⟩ | ⟨rfl, hpz, hpp⟩
      · have hno : shrG xs a n = false := shrG_neg (by rw [HZz.out]; exact rd_stuck (j := j) (by omega) (by omega))
        have HE := Lib.hid (shr_no hno)
        have HE2 := Lib.hid hno
        generalize esR xs n j s0 = ks at hel hrb p2'
        have CS := Lib.hid (specShardBytes ll hh A1 ks.length c1 ks wr (SlK.of_own hrb.out.o rfl) hel)
        generalize shardY ll hh ks = ys at CS
        generalize shardB ll hh ks = ok at CS
        clear hpz hno HPA hgo
        rcases Nat.eq_zero_or_pos r with hr0 | hr0
        · have hr1 : (r : Int) ≤ 0 := by omega
          clear hr0
          go_wp2_with fail
          refine CS.out.mono ?_
          rintro e w8 ⟨A9, c9, rfl, ho9, hb9⟩
          have Q8 := Lib.hid (hrb.out.below hb9)
          have L8 : Hid (LB w8 (w.heap.size + 1) A n c pa true) := Lib.hid (HLB.out.below hb9)
          have Z8 : Hid (SBlk w8 w.heap.size 0 0 none 0 0) := Lib.hid Q8.out.z
          obtain ⟨l0, l1, l2⟩ := L8.out.cells
          obtain ⟨z0, z1, z2⟩ := Z8.out.cells
          have f0 := Blk.frozen Z8.out 0
          have f1 := Blk.frozen Z8.out 1
          have f2 := Blk.frozen Z8.out 2
          clear ho9 hb9 q0 q1 q2 p0 p1 p2'
          go_wp2
          go_quiet (fail)
          rename Nat => kq
          go_wp2
          refine bodyPost_ret (v := .tuple #[.agg #[.int .i64 0, .int .i64 0, .slice none 0 0], .int .i64 0, .bool false]) (by simp [results, Try.results36, go_sem, z0, z1, z2]) rfl ?_
          rw [HE2.out, HE.out.1, HE.out.2.1, HE.out.2.2.1, HE.out.2.2.2]
          exact MadeShP.no w _ (by repeat (first | exact below_drewN Q8.out.b kq | refine Below.setCell ?_ (by simp) _))
        · have hr1 : (0 : Int) < (r : Int) := by omega
          clear hr0
          go_wp2_with fail
          refine CS.out.mono ?_
          rintro e w8 ⟨A9, c9, rfl, ho9, hb9⟩
          have Q8 := Lib.hid (hrb.out.below hb9)
          have L8 : Hid (LB w8 (w.heap.size + 1) A n c pa true) := Lib.hid (HLB.out.below hb9)
          have Z8 : Hid (SBlk w8 w.heap.size 0 0 none 0 0) := Lib.hid Q8.out.z
          obtain ⟨l0, l1, l2⟩ := L8.out.cells
          obtain ⟨z0, z1, z2⟩ := Z8.out.cells
          have f0 := Blk.frozen Z8.out 0
          have f1 := Blk.frozen Z8.out 1
          have f2 := Blk.frozen Z8.out 2
          clear ho9 hb9 q0 q1 q2 p0 p1 p2'
          go_wp2
          go_quiet (fail)
          rename Nat => kq
          go_wp2
          refine bodyPost_ret (v := .tuple #[.agg #[.int .i64 0, .int .i64 0, .slice none 0 0], .int .i64 0, .bool false]) (by simp [results, Try.results36, go_sem, z0, z1, z2]) rfl ?_
          rw [HE2.out, HE.out.1, HE.out.2.1, HE.out.2.2.1, HE.out.2.2.2]
          exact MadeShP.no w _ (by repeat (first | exact below_drewN Q8.out.b kq | refine Below.setCell ?_ (by simp) _))
      · obtain rfl : r = 0 := by rcases Nat.eq_zero_or_pos r with h | h; exact h; exact absurd ⟨h, rfl⟩ hgo
        obtain rfl : j = K := by omega
        have hr1 : ((0 : Nat) : Int) ≤ 0 := by omega
        have hKe : (esR xs n j s0).length = j := esR_len _ _ _ _
        cases hv : shardB ll hh (esR xs n j s0) with
        | false =>
          have hno : shrG xs a n = false := by
            rcases Nat.lt_or_ge 400 j with hj4 | hj4
            · exact shrG_big (by rw [HLo.out.2.2]; omega)
            · rw [shrG_of (by rw [HLo.out.2.2]; omega) (by rw [HZz.out]; omega), HLo.out.1, HLo.out.2.1, HEs.out, hv]
          have HE := Lib.hid (shr_no hno)
          have HE2 := Lib.hid hno
          have CS := Lib.hid (specShardBytes ll hh A1 _ c1 _ wr (SlK.of_own hrb.out.o rfl) hel)
          rw [hv] at CS
          generalize shardY ll hh (esR xs n j s0) = ys at CS
          clear hKe hpz hno hv HPA hgo HEs hj
          generalize esR xs n j s0 = ks at hel hrb p2' CS
          go_wp2_with fail
          refine CS.out.mono ?_
          rintro e w8 ⟨A9, c9, rfl, ho9, hb9⟩
          have Q8 := Lib.hid (hrb.out.below hb9)
          have L8 : Hid (LB w8 (w.heap.size + 1) A n c pa false) := Lib.hid (HLB.out.below hb9)
          have Z8 : Hid (SBlk w8 w.heap.size 0 0 none 0 0) := Lib.hid Q8.out.z
          obtain ⟨l0, l1, l2⟩ := L8.out.cells
          obtain ⟨z0, z1, z2⟩ := Z8.out.cells
          have f0 := Blk.frozen Z8.out 0
          have f1 := Blk.frozen Z8.out 1
          have f2 := Blk.frozen Z8.out 2
          clear ho9 hb9 q0 q1 q2 p0 p1 p2'
          go_wp2
          go_quiet (fail)
          rename Nat => kq
          go_wp2
          refine bodyPost_ret (v := .tuple #[.agg #[.int .i64 0, .int .i64 0, .slice none 0 0], .int .i64 0, .bool false]) (by simp [results, Try.results36, go_sem, z0, z1, z2]) rfl ?_
          rw [HE2.out, HE.out.1, HE.out.2.1, HE.out.2.2.1, HE.out.2.2.2]
          exact MadeShP.no w _ (by repeat (first | exact below_drewN Q8.out.b kq | refine Below.setCell ?_ (by simp) _))
        | true =>
          have hj4 : j ≤ 400 := by have := (shardB_iff hv).2.2.2.1; omega
          have hyes : shrG xs a n = true := by rw [shrG_of (by rw [HLo.out.2.2]; omega) (by rw [HZz.out]; omega), HLo.out.1, HLo.out.2.1, HEs.out, hv]
          have HE := Lib.hid (shr_yes hyes)
          have HE2 := Lib.hid hyes
          have hup := rdIt_up HXL.out j s0 (by omega)
          have hs0a : s0.a = p3 := by rw [HS0.out]
          obtain ⟨ha0, ha3⟩ := HUP.out (by omega)
          have htop := rd_top HXL.out j s0 (by rw [hs0a]; exact HTOP.out)
          have HSEG : Hid (shardY ll hh (esR xs n j s0) = seg xs a pa) := Lib.hid (by
            have h := shard_seg (a := a) HXL.out HR.out.small (by rw [HZz.out]; omega) (by rw [HLo.out.1, HLo.out.2.1, HEs.out]; exact hv)
            rw [HLo.out.1, HLo.out.2.1, HEs.out, HZz.out, hpz] at h
            exact h)
          have CS := Lib.hid (specShardBytes ll hh A1 _ c1 _ wr (SlK.of_own hrb.out.o rfl) hel)
          rw [hv, HSEG.out] at CS
          have HEs2 : Hid ((rdHead xs a n).es xs n = esR xs n j s0 ∧ (rdHead xs a n).z xs n = pa) := Lib.hid ⟨HEs.out, by rw [HZz.out]; exact hpz⟩
          obtain ⟨a0, ha0'⟩ : ∃ a0 : Nat, a = (a0 : Int) := ⟨a.toNat, by omega⟩
          obtain ⟨m0, hm0⟩ : ∃ m0 : Nat, pa = (a0 : Int) + (m0 : Int) := ⟨(pa - a0).toNat, by omega⟩
          have hseg : seg xs a pa = (xs.drop a0).take m0 := by unfold seg; rw [ha0', hm0, Int.toNat_natCast, show ((a0 : Int) + (m0 : Int) - (a0 : Int)).toNat = m0 by omega]
          obtain ⟨AA, hsA, hrdA⟩ := pk_slice_mid (l := a0) (m := m0) pa HR.out hm0 (by omega) hnc
          rw [← ha0'] at hsA
          rw [hseg] at CS
          have HRA := Lib.hid hrdA
          have HYS : Hid (∀ x ∈ (xs.drop a0).take m0, x < 256) := Lib.hid (fun x hx => HR.out.small x (List.mem_of_mem_drop (List.mem_of_mem_take hx)))
          generalize (xs.drop a0).take m0 = Y at CS HRA HYS
          clear hKe hv HPA hgo HEs hj hyes hup hs0a ha3 htop HSEG hseg hrdA hpz hj4
          generalize esR xs n j s0 = ks at hel hrb p2' CS HEs2
          go_wp2_with fail
          refine CS.out.mono ?_
          rintro e w8 ⟨A9, c9, rfl, ho9, hb9⟩
          have Q8 := Lib.hid (hrb.out.below hb9)
          have L8 : Hid (LB w8 (w.heap.size + 1) A n c pa false) := Lib.hid (HLB.out.below hb9)
          have Z8 : Hid (SBlk w8 w.heap.size 0 0 none 0 0) := Lib.hid Q8.out.z
          obtain ⟨l0, l1, l2⟩ := L8.out.cells
          obtain ⟨z0, z1, z2⟩ := Z8.out.cells
          have f0 := Blk.frozen Z8.out 0
          have f1 := Blk.frozen Z8.out 1
          have f2 := Blk.frozen Z8.out 2
          have S8 : Hid (SBlk w8 w2.heap.size ll hh A1 ks.length c1) := Lib.hid Q8.out.s
          have e1 : ∀ i, (convert 55 9 (.slice A9 Y.length c9)).run Try.prog (w8.drewN i) = .ok (.string (strB Y)) (w8.drewN i) := fun i => conv_rd c9 ((Rd.of_own ho9 HYS.out).drewN i)
          have e2 : ∀ i, (convert 55 9 (.slice AA m0 (c - a0))).run Try.prog (w8.drewN i) = .ok (.string (strB Y)) (w8.drewN i) := fun i => conv_rd (c - a0) ((HRA.out.below Q8.out.b).drewN i)
          have hbeq := strB_beq Y Y HYS.out HYS.out
          rw [decide_eq_true rfl] at hbeq
          generalize strB Y = S1 at e1 e2 hbeq
          have HNB := Lib.hid (Q8.out.ne (q := w.heap.size) (by show w.heap.size < w5.heap.size; omega))
          clear ho9 hb9 q0 q1 q2 p0 p1 p2' ha0' hm0
          obtain ⟨p0, p1, p2'⟩ := S8.out.cells
          go_wp2
          go_quiet (fail)
          rename Nat => kq
          go_wp2
          go_region
          go_wp2
          refine bodyPost_ret (v := .tuple #[.agg #[.int .i64 ll, .int .i64 hh, .slice A1 ks.length c1], .int .i64 pa, .bool true]) (by simp [results, Try.results36, go_sem, z0, z1, z2]) rfl ?_
          rw [HE2.out, HE.out.1, HE.out.2.1, HE.out.2.2.1, HE.out.2.2.2, HLo.out.1, HLo.out.2.1, HEs2.out.1, HEs2.out.2]
          exact ⟨A1, c1, rfl, own_apart (own_apart (own_apart (own_monoG (lo' := w.heap.size) (own_drewN Q8.out.o (kq + 1)) (by show w.heap.size ≤ w5.heap.size; omega)) HNB.out) HNB.out) HNB.out, by repeat (first | exact below_drewN Q8.out.b (kq + 1) | refine Below.setCell ?_ (by simp) _)⟩
end Go.Proofs.Ytmbabbapcjphgaa
