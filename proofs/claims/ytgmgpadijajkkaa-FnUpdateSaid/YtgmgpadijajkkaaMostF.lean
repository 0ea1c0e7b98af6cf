/- The contract of the program's mostFrequent: the most frequent label, the smallest in case of a tie; it sorts the list it is given. Condition: at most 2^21 labels. -/
import Derived.Test.YtgmgpadijajkkaaMostI
import Derived.Test.YtgmgpadijajkkaaNewI
namespace Go.Proofs.Ytgmgpadijajkkaa
open Go.RowKit

theorem scan_start (x : Int) (ys : List Int) : Scan (ys.take 0) x x 0 0 := .inl ⟨by simp, rfl, rfl, rfl⟩
theorem scan_pos {P : List Int} {x b : Int} {m c : Nat} (h : Scan P x b m c) (hp : P ≠ []) : 1 ≤ m := by
  rcases h with ⟨h1, _⟩ | ⟨y, _, _, h3, h4, _⟩
  · exact absurd h1 hp
  · rw [h4]
    exact List.count_pos_iff.2 h3
theorem scan_zero {P : List Int} {x b : Int} {m c : Nat} (h : Scan P x b m c) (hp : P = []) : c = 0 := by
  rcases h with ⟨_, _, _, h4⟩ | ⟨y, h1, _⟩
  · exact h4
  · rw [hp] at h1; simp at h1
/-- The scan's next step, as the program takes it: with the count kept, or begun anew. -/
theorem scan_keep {ys : List Int} {x b y : Int} {k m c : Nat} (h : Scan (ys.take k) x b m c) (hs : ys.Pairwise (· ≤ ·)) (hy : ys[k]? = some y) (hp : k = 0 ∨ ∃ q, q + 1 = k ∧ ys[q]? = some y) :
    Scan (ys.take (k + 1)) x (if m < c + 1 then y else b) (if m < c + 1 then c + 1 else m) (c + 1) := by
  rw [take_snoc hy]
  have hs2 : (ys.take k ++ [y]).Pairwise (· ≤ ·) := by rw [← take_snoc hy]; exact hs.sublist (List.take_sublist _ _)
  rcases hp with rfl | ⟨q, rfl, hq⟩
  · have hc := scan_zero h (by simp)
    subst hc
    have h9 := h.step hs2 false (by simp) (by simp)
    simpa using h9
  · have h9 := h.step hs2 true (fun _ => by rw [take_snoc hq]; simp) (by simp)
    simpa using h9
theorem scan_new {ys : List Int} {x b y z : Int} {k q m c : Nat} (h : Scan (ys.take k) x b m c) (hs : ys.Pairwise (· ≤ ·)) (hy : ys[k]? = some y) (hq1 : q + 1 = k) (hq : ys[q]? = some z) (hne : z ≠ y) :
    Scan (ys.take (k + 1)) x b m 1 := by
  have hm : 1 ≤ m := scan_pos h (by rw [← hq1, take_snoc hq]; simp)
  rw [take_snoc hy]
  have hs2 : (ys.take k ++ [y]).Pairwise (· ≤ ·) := by rw [← take_snoc hy]; exact hs.sublist (List.take_sublist _ _)
  have h9 := h.step hs2 false (by simp) (fun _ => by rw [← hq1, take_snoc hq]; simp; exact hne)
  simp at h9
  rwa [if_neg (by omega), if_neg (by omega)] at h9
def MostF (w : World) (A : Option Addr) (n c : Nat) (zs : List Int) (x : Int) (e : Ending) (w' : World) : Prop :=
  e = .returned (.int .i64 (mostR zs x)) ∧ w.grownBy w' (Value.slice A n c).ownBlock

set_option maxRecDepth 10000 in
set_option maxHeartbeats 4000000 in
theorem implMost (lo : Nat) (A : Option Addr) (n c : Nat) (zs : List Int) (x : Int) (w : World) (ho : w.ownsRow lo 3 1 (.slice A n c) n (vi zs)) (hl : zs.length = n) (hn : n ≤ 2097152) :
    Calls Try.prog 67 #[.slice A n c, .int .i64 x] w (MostF w A n c zs x) := by
  rcases Nat.eq_zero_or_pos n with rfl | hpos
  · obtain rfl : zs = [] := List.eq_nil_of_length_eq_zero hl
    have C := Lib.hid (fun W => sortNone_any A c W)
    clear ho hl
    go_enter Try.func67, Try.ntmps67
    go_wp2_with fail
    refine (C.out _).mono ?_
    rintro e w1 ⟨rfl, rfl⟩
    go_wp2
    go_loopw [5, 6, 7, 15] (fun b m q i wr => i = .int .i64 0 ∧ b = .int .i64 x ∧ wr = w1) (fun _ _ _ _ _ => 0)
    case atStart => exact ⟨rfl, rfl, rfl⟩
    case round =>
      obtain ⟨rfl, rfl, rfl⟩ := hrel
      go_wp2
      go_ret
      exact ⟨rfl, World.grownBy.refl _ _⟩
  · obtain ⟨g, rfl⟩ := g_own_at ho hpos
    have C := Lib.hid (sortInts_any lo g n c zs w ho hl hn)
    have HLZ := Lib.hid hl
    clear ho hl
    go_enter Try.func67, Try.ntmps67
    go_wp2_with fail
    refine C.out.mono ?_
    rintro e w1 ⟨ys, rfl, hperm, hsort, ho1, hg1⟩
    have HP := Lib.hid hperm
    have HSO := Lib.hid hsort
    have HO := Lib.hid ho1
    have HG := Lib.hid hg1
    have HLY : Hid (ys.length = n) := Lib.hid (by rw [← HP.out.length_eq]; exact HLZ.out)
    clear hperm hsort ho1 hg1 C
    go_wp2
    go_loopw [5, 6, 7, 15] (fun b5 m6 c7 i wr => ∃ (k : Nat) (b : Int) (m cnt : Nat), k ≤ n ∧ i = .int .i64 (k : Int) ∧ b5 = .int .i64 b ∧ m6 = .int .i64 (m : Int) ∧ c7 = .int .i64 (cnt : Int) ∧ wr = w1 ∧ Hid (Scan (ys.take k) x b m cnt)) (fun _ _ _ i _ => n - (intOf i).toNat)
    case atStart => exact ⟨0, x, 0, 0, Nat.zero_le _, rfl, rfl, rfl, rfl, rfl, Lib.hid (scan_start x ys)⟩
    case round =>
      obtain ⟨k, b, m, cnt, hk, rfl, rfl, rfl, rfl, rfl, hsc⟩ := hrel
      have hle := hsc.out.le
      rw [List.length_take] at hle
      have hm2 : m ≤ 2097152 := by omega
      have hc2 : cnt ≤ 2097152 := by omega
      clear hle
      by_cases hlt : k < n
      · obtain ⟨y, hy⟩ : ∃ y, Hid (ys[k]? = some y) := ⟨ys[k]'(by rw [HLY.out]; exact hlt), Lib.hid (List.getElem?_eq_getElem _)⟩
        have hcy : wr.cell? ⟨g, k, none⟩ = some (.int .i64 y) := by
          have h1 := HO.out.cellAt k (by omega)
          rw [vi_get, hy.out] at h1
          exact h1
        by_cases hk0 : k = 0
        · have hd0 : decide ((0 : Int) < (k : Int)) = false := by simp; omega
          have hk1 : ¬ 0 < k := by omega
          have HK0 := Lib.hid hk0
          clear hk0
          have HSC := Lib.hid (scan_keep hsc.out HSO.out hy.out (.inl HK0.out))
          obtain ⟨ci, hci⟩ : ∃ ci : Int, ci = (cnt : Int) := ⟨_, rfl⟩
          obtain ⟨mi, hmi⟩ : ∃ mi : Int, mi = (m : Int) := ⟨_, rfl⟩
          obtain ⟨z1, hz1⟩ : ∃ z1 : Int, z1 = ci + 1 := ⟨_, rfl⟩
          have hw1 : IntKind.i64.wrap (ci + 1) = z1 := by rw [hz1]; exact IntWalk.i64_in _ (by omega)
          have HCI := Lib.hid hci
          have HMI := Lib.hid hmi
          have HZ1 := Lib.hid hz1
          by_cases hg : mi < z1
          · have hg2 : m < cnt + 1 := by omega
            rw [if_pos hg2, if_pos hg2] at HSC
            simp only [← hci, ← hmi]
            clear hci hmi hz1 hg2
            go_wp2
            go_roundw
            case rel => exact ⟨k + 1, y, cnt + 1, cnt + 1, by omega, by go_num, rfl, g_val (by have := HCI.out; have := HZ1.out; omega), g_val (by have := HCI.out; have := HZ1.out; omega), by first | rfl | trivial, Lib.hid HSC.out⟩
            case measure => simp [intOf]; omega
          · have hg2 : ¬ m < cnt + 1 := by omega
            rw [if_neg hg2, if_neg hg2] at HSC
            simp only [← hci, ← hmi]
            clear hci hmi hz1 hg2
            go_wp2
            go_roundw
            case rel => exact ⟨k + 1, b, m, cnt + 1, by omega, by go_num, rfl, g_val HMI.out, g_val (by have := HCI.out; have := HZ1.out; omega), by first | rfl | trivial, Lib.hid HSC.out⟩
            case measure => simp [intOf]; omega
        · obtain ⟨q, HQ⟩ : ∃ q, Hid (q + 1 = k) := ⟨k - 1, Lib.hid (by omega)⟩
          have hd0 : decide ((0 : Int) < (k : Int)) = true := by simp; omega
          have hk1 : 0 < k := by omega
          have hq1 : (k : Int) - 1 = (q : Int) := by have := HQ.out; omega
          have hq2 : IntKind.i64.wrap (q : Int) = (q : Int) := IntWalk.i64_in _ (by have := HQ.out; omega)
          have hq3 : q < n := by have := HQ.out; omega
          obtain ⟨z, hz⟩ : ∃ z, Hid (ys[q]? = some z) := ⟨ys[q]'(by rw [HLY.out]; exact hq3), Lib.hid (List.getElem?_eq_getElem _)⟩
          have hcz : wr.cell? ⟨g, q, none⟩ = some (.int .i64 z) := by
            have h1 := HO.out.cellAt q (by omega)
            rw [vi_get, hz.out] at h1
            exact h1
          by_cases hzy : z = y
          · have hz2 : Hid (ys[q]? = some y) := Lib.hid (by rw [hz.out, hzy])
            rw [hzy] at hcz
            clear hzy hz
            have HSC := Lib.hid (scan_keep hsc.out HSO.out hy.out (.inr ⟨q, HQ.out, hz2.out⟩))
            obtain ⟨ci, hci⟩ : ∃ ci : Int, ci = (cnt : Int) := ⟨_, rfl⟩
            obtain ⟨mi, hmi⟩ : ∃ mi : Int, mi = (m : Int) := ⟨_, rfl⟩
            obtain ⟨z1, hz1⟩ : ∃ z1 : Int, z1 = ci + 1 := ⟨_, rfl⟩
            have hw1 : IntKind.i64.wrap (ci + 1) = z1 := by rw [hz1]; exact IntWalk.i64_in _ (by omega)
            have HCI := Lib.hid hci
            have HMI := Lib.hid hmi
            have HZ1 := Lib.hid hz1
            by_cases hg : mi < z1
            · have hg2 : m < cnt + 1 := by omega
              rw [if_pos hg2, if_pos hg2] at HSC
              simp only [← hci, ← hmi]
              clear hci hmi hz1 hg2
              go_wp2
              go_roundw
              case rel => exact ⟨k + 1, y, cnt + 1, cnt + 1, by omega, by go_num, rfl, g_val (by have := HCI.out; have := HZ1.out; omega), g_val (by have := HCI.out; have := HZ1.out; omega), by first | rfl | trivial, Lib.hid HSC.out⟩
              case measure => simp [intOf]; omega
            · have hg2 : ¬ m < cnt + 1 := by omega
              rw [if_neg hg2, if_neg hg2] at HSC
              simp only [← hci, ← hmi]
              clear hci hmi hz1 hg2
              go_wp2
              go_roundw
              case rel => exact ⟨k + 1, b, m, cnt + 1, by omega, by go_num, rfl, g_val HMI.out, g_val (by have := HCI.out; have := HZ1.out; omega), by first | rfl | trivial, Lib.hid HSC.out⟩
              case measure => simp [intOf]; omega
          · have hne : (z == y) = false := by simp [hzy]
            have HSC := Lib.hid (scan_new hsc.out HSO.out hy.out HQ.out hz.out hzy)
            have HPOS := scan_pos hsc.out (by rw [← HQ.out, take_snoc hz.out]; simp)
            obtain ⟨mi, hmi⟩ : ∃ mi : Int, mi = (m : Int) := ⟨_, rfl⟩
            have hg1 : ¬ mi < 1 := by omega
            have hg2 : decide (mi < 1) = false := by simp; omega
            have hg3 : ¬ mi ≤ 0 := by omega
            have HMI := Lib.hid hmi
            simp only [← hmi]
            clear hmi HPOS
            go_wp2
            go_roundw
            case rel => exact ⟨k + 1, b, m, 1, by omega, by go_num, rfl, g_val HMI.out, by first | rfl | trivial, by first | rfl | trivial, Lib.hid HSC.out⟩
            case measure => simp [intOf]; omega
      · obtain rfl : k = n := by omega
        have HM := Lib.hid (hsc.out)
        go_wp2
        go_ret
        refine ⟨g_int ?_, HG.out⟩
        have h1 := HM.out
        rw [List.take_of_length_le (by rw [HLY.out]; exact Nat.le_refl _)] at h1
        exact h1.most HP.out
end Go.Proofs.Ytgmgpadijajkkaa
