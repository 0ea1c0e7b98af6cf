/- Windows into a shard, as data, and the contract of the model's Window. Condition: at most 2^20 edges. -/
import Derived.Test.YtbfdhlpncblahaaShOkS
namespace Go.Proofs.Ytbfdhlpncblahaa
open Go.RowKit

def belowN (x : Int) (es : List KE) : Nat := es.countP (fun e => decide (e.f < x))
def winR (lo hi : Int) (es : List KE) (a b : Int) : Int × Int := if shardB lo hi es = true ∧ a ≤ b then (((belowN a es : Nat) : Int), ((belowN b es : Nat) : Int)) else (0, 0)
theorem winR_yes {lo hi : Int} {es : List KE} {a b : Int} (h : shardB lo hi es = true) (hab : a ≤ b) : winR lo hi es a b = (((belowN a es : Nat) : Int), ((belowN b es : Nat) : Int)) := if_pos ⟨h, hab⟩
theorem winR_no {lo hi : Int} {es : List KE} {a b : Int} (h : shardB lo hi es = false ∨ b < a) : winR lo hi es a b = (0, 0) := if_neg (fun hh => by
  rcases h with h | h
  · rw [h] at hh; cases hh.1
  · omega)
theorem belowN_step {x : Int} {es : List KE} {k : Nat} {e : KE} (he : es[k]? = some e) : belowN x (es.take (k + 1)) = belowN x (es.take k) + (if e.f < x then 1 else 0) := by
  rw [g_take es k e he]
  unfold belowN
  rw [List.countP_append]
  simp [List.countP_cons]
theorem belowN_le (x : Int) (es : List KE) : belowN x es ≤ es.length := List.countP_le_length

def TwoI (w : World) (p : Int × Int) (e : Ending) (w' : World) : Prop := e = .returned (.tuple #[.int .i64 p.1, .int .i64 p.2]) ∧ Below w.heap.size w w'

set_option maxRecDepth 10000 in
set_option maxHeartbeats 4000000 in
theorem specWindow (lo hi : Int) (A : Option Addr) (n c : Nat) (es : List KE) (a b : Int) (w : World) (hr : SlK w A n es) (hn : n ≤ 1048576) :
    Calls Try.prog 33 #[.agg #[.int .i64 lo, .int .i64 hi, .slice A n c], .int .i64 a, .int .i64 b] w (TwoI w (winR lo hi es a b)) := by
  have CO := Lib.hid (fun W (h : Below w.heap.size w W) => specShardOk lo hi A n c es W (hr.below h) hn)
  have HB0 := Lib.hid (below_a1 w (.cells #[.int .i64 lo, .int .i64 hi, .slice A n c] 29))
  have HEL := Lib.hid hr.len
  have HR := Lib.hid hr
  clear hr
  cases hv : shardB lo hi es with
  | false =>
    rw [winR_no (.inl hv)]
    rw [hv] at CO
    clear hv
    go_enter Try.func33, Try.ntmps33
    go_wp2_with fail
    refine (CO.out _ HB0.out).mono ?_
    rintro e w1 ⟨rfl, hb1⟩
    go_wp2
    go_ret2
    exact ⟨rfl, g_chain HB0.out hb1⟩
  | true =>
    by_cases hab : a ≤ b
    · rw [winR_yes hv hab]
      have h4 : n ≤ 400 := by have := (shardB_iff hv).2.2.2.1; have := HEL.out; omega
      rw [hv] at CO
      clear hv
      go_enter Try.func33, Try.ntmps33
      go_wp2_with fail
      refine (CO.out _ HB0.out).mono ?_
      rintro e w1 ⟨rfl, hb1⟩
      have HB1 := Lib.hid (g_chain HB0.out hb1)
      obtain ⟨l0, x0, x1, x2⟩ := (HBox.new w lo hi A n c 29).below hb1
      clear hb1
      go_wp2
      clear l0 x0 x1 x2
      go_loopw [8, 9, 23] (fun u v i wr => ∃ k p q : Nat, k ≤ n ∧ i = .int .i64 k ∧ u = .int .i64 p ∧ v = .int .i64 q ∧ p ≤ k ∧ q ≤ k ∧ Hid (p = belowN a (es.take k)) ∧ Hid (q = belowN b (es.take k)) ∧ Hid (Below w.heap.size w wr)) (fun _ _ i _ => n - (intOf i).toNat)
      case atStart => exact ⟨0, 0, 0, Nat.zero_le _, rfl, rfl, rfl, Nat.le_refl _, Nat.le_refl _, Lib.hid rfl, Lib.hid rfl, HB1⟩
      case round =>
        clear HB1
        obtain ⟨k, p, q, hk, rfl, rfl, rfl, hpk, hqk, hp, hq, hbel⟩ := hrel
        by_cases hlt : k < n
        · obtain ⟨bb, off, e, rfl, hbw, he, c0, c1, c2, c3, c4⟩ := HR.out.at_ hlt
          have c0 := (hbel.out.cell (p := ⟨bb, off + k * 5, none⟩) hbw).trans c0
          have c1 := (hbel.out.cell (p := ⟨bb, off + k * 5 + 1, none⟩) hbw).trans c1
          have c2 := (hbel.out.cell (p := ⟨bb, off + k * 5 + 2, none⟩) hbw).trans c2
          have c3 := (hbel.out.cell (p := ⟨bb, off + k * 5 + 3, none⟩) hbw).trans c3
          have c4 := (hbel.out.cell (p := ⟨bb, off + k * 5 + 4, none⟩) hbw).trans c4
          have S1 := Lib.hid (belowN_step (x := a) he.out)
          have S2 := Lib.hid (belowN_step (x := b) he.out)
          have HA := Lib.hid (g_chain hbel.out (below_a1 wr (.cells #[.int .i64 e.f, .int .i64 e.t, .int .i64 e.w, .int .i64 e.i, .int .i64 e.v] 78)))
          rcases Int.lt_or_le e.f a with h1 | h1
          · have h2 : e.f < b := by omega
            go_wp2
            go_roundw
            case rel => exact ⟨k + 1, p + 1, q + 1, by omega, by go_num, by go_num, by go_num, by omega, by omega, Lib.hid (by rw [S1.out, if_pos h1, ← hp.out]), Lib.hid (by rw [S2.out, if_pos h2, ← hq.out]), HA⟩
            case measure => simp [intOf]; omega
          · rcases Int.lt_or_le e.f b with h2 | h2
            · go_wp2
              go_roundw
              case rel => exact ⟨k + 1, p, q + 1, by omega, by go_num, by go_num, by go_num, by omega, by omega, Lib.hid (by rw [S1.out, if_neg (by omega), ← hp.out]; rfl), Lib.hid (by rw [S2.out, if_pos h2, ← hq.out]), HA⟩
              case measure => simp [intOf]; omega
            · go_wp2
              go_roundw
              case rel => exact ⟨k + 1, p, q, by omega, by go_num, by go_num, by go_num, by omega, by omega, Lib.hid (by rw [S1.out, if_neg (by omega), ← hp.out]; rfl), Lib.hid (by rw [S2.out, if_neg (by omega), ← hq.out]; rfl), HA⟩
              case measure => simp [intOf]; omega
        · obtain rfl : k = n := by omega
          have HV1 : Hid (belowN a es = p) := Lib.hid (by have h1 := hp.out; rw [List.take_of_length_le (by rw [HEL.out]; exact Nat.le_refl _)] at h1; exact h1.symm)
          have HV2 : Hid (belowN b es = q) := Lib.hid (by have h1 := hq.out; rw [List.take_of_length_le (by rw [HEL.out]; exact Nat.le_refl _)] at h1; exact h1.symm)
          go_wp2
          go_ret2
          rw [HV1.out, HV2.out]
          exact ⟨rfl, hbel.out⟩
    · rw [winR_no (.inr (by omega))]
      rw [hv] at CO
      clear hv
      go_enter Try.func33, Try.ntmps33
      go_wp2_with fail
      refine (CO.out _ HB0.out).mono ?_
      rintro e w1 ⟨rfl, hb1⟩
      go_wp2
      go_ret2
      exact ⟨rfl, g_chain HB0.out hb1⟩
end Go.Proofs.Ytbfdhlpncblahaa
