/- The contracts of the model's l11Vals and RunOk. Condition: at most 2^20 edges, 2^21 numbers or bytes. -/
import Derived.Test.YtpgnappddddlpaaGreatDoorCGC
import Derived.Test.YtpgnappddddlpaaGreatDoorCGK
import Derived.Test.YtpgnappddddlpaaGreatDoorCGJ
import Derived.Deep.RegionHeld3
namespace Go.Proofs.YtpgnappddddlpaaGreatDoor
open Go.RowKit
set_option linter.unusedVariables false

theorem valsS_no {xs : List Int} {k : Nat} {x : Int} (h : xs[k]? = some x) (hx : ¬ (0 ≤ x ∧ x ≤ 1099511627776)) : valsB xs = false := by
  unfold valsB
  rw [List.all_eq_false]
  exact ⟨x, List.mem_of_getElem? h, by unfold valB; simpa using hx⟩
theorem valsS_step {xs : List Int} {k : Nat} {x : Int} (h : xs[k]? = some x) (ha : ∀ y ∈ xs.take k, valB y = true) (hx : 0 ≤ x ∧ x ≤ 1099511627776) : ∀ y ∈ xs.take (k + 1), valB y = true := by
  rw [g_take xs k x h]
  intro y hy
  rcases List.mem_append.1 hy with hy | hy
  · exact ha y hy
  · rw [List.mem_singleton.1 hy]; unfold valB; simpa using hx
theorem valsS_yes {xs : List Int} (ha : ∀ y ∈ xs.take xs.length, valB y = true) : valsB xs = true := by
  rw [List.take_length] at ha
  unfold valsB
  rw [List.all_eq_true]
  exact ha
set_option maxRecDepth 10000 in
set_option maxHeartbeats 1000000 in
theorem specVals (A : Option Addr) (n c : Nat) (xs : List Int) (w : World) (hr : SlI w A n xs) (hn : n ≤ 2097152) :
    Calls Tryz.prog 49 #[.slice A n c] w fun e w' => e = .returned (.bool (valsB xs)) ∧ w = w' := by
  have HR := Lib.hid hr
  have HL := Lib.hid hr.len
  clear hr
  go_enter Tryz.func49, Tryz.ntmps49
  go_wp2
  go_loopw [7] (fun i wr => ∃ k : Nat, k ≤ n ∧ i = .int .i64 (k : Int) ∧ Hid (∀ y ∈ xs.take k, valB y = true) ∧ wr = w) (fun i _ => n - (intOf i).toNat)
  case atStart => exact ⟨0, Nat.zero_le _, rfl, Lib.hid (by simp), by first | rfl | trivial⟩
  case round =>
    obtain ⟨k, hk, rfl, hok, rfl⟩ := hrel
    by_cases hlt : k < n
    · obtain ⟨b, off, x, rfl, hbw, hx, c0⟩ := HR.out.at_ hlt
      by_cases h0 : 0 ≤ x
      · by_cases h1 : x ≤ 1099511627776
        · have HK := Lib.hid (valsS_step hx.out hok.out ⟨h0, h1⟩)
          clear hok
          go_wp2
          go_roundw
          case rel => exact ⟨k + 1, by omega, by go_num, HK, by first | rfl | trivial⟩
          case measure => simp [intOf]; omega
        · have HK := Lib.hid (valsS_no hx.out (fun h => h1 h.2))
          have h2 : 1099511627776 < x := by omega
          clear hok
          go_wp2
          go_ret
          exact ⟨by rw [HK.out]; rfl, rfl⟩
      · have HK := Lib.hid (valsS_no hx.out (fun h => h0 h.1))
        have h2 : x < 0 := by omega
        clear hok
        go_wp2
        go_ret
        exact ⟨by rw [HK.out]; rfl, rfl⟩
    · obtain rfl : k = n := by omega
      have HK := Lib.hid (valsS_yes (xs := xs) (by rw [HL.out]; exact hok.out))
      go_wp2
      go_ret
      exact ⟨by rw [HK.out]; rfl, rfl⟩
theorem runS_at (N : Int) (G : List GE) (p s it : Int) (dn : Bool) (vs ev : List Int) (nn : Int) (nx : List Nat) : runB N G ⟨p, s, it, dn, vs, ev, nn, nx⟩ = (graphB N G && (jobB N p s && (decide (0 ≤ it ∧ it ≤ 1000) && (decide ((vs.length : Int) = N ∧ ev.length = G.length) && (valsB vs && (valsB ev && (setB nn nx && (decide (nn = N) && (dn == decide ((memsB nn nx).length = 0)))))))))) := rfl

theorem held_nameS {P : Program} {md : Region.Mode} {ops : Array Oper} {Q : Exit → Act → World → Prop} {S : World → Prop} {fuel : Nat} {listed : Array Bool} {a : Act} {w : World} (hS : S w) (h : S w → wpAnyH P md ops Q S fuel listed a w) : wpAnyH P md ops Q S fuel listed a w := h hS
set_option maxRecDepth 20000 in
set_option maxHeartbeats 8000000 in
theorem specRunOk (N : Int) (AG : Option Addr) (l cG : Nat) (G : List GE) (p s it : Int) (dn : Bool) (A : Option Addr) (n c : Nat) (B : Option Addr) (m d : Nat) (nn : Int) (C : Option Addr) (j k : Nat) (vs ev : List Int) (nx : List Nat) (w : World) (hg : SlG w AG l G) (hv : SlI w A n vs) (he : SlI w B m ev) (hx : Rd w C j nx) (hl : l ≤ 1048576) (hn : n ≤ 2097152) (hm : m ≤ 2097152) (hj : j ≤ 2097152) :
    Calls Tryz.prog 23 #[.agg #[.int .i64 N, .slice AG l cG], .agg #[.int .i64 p, .int .i64 s, .int .i64 it, .bool dn, .slice A n c, .slice B m d, .int .i64 nn, .slice C j k]] w (GTell w (runB N G ⟨p, s, it, dn, vs, ev, nn, nx⟩)) := by
  have LG := Lib.hid hg.len
  have LV := Lib.hid hv.len
  have LE := Lib.hid he.len
  have C0 := Lib.hid (fun W (h : Below w.heap.size w W) => specGraphOk N AG l cG G W (hg.below h) hl)
  have C1 := Lib.hid (fun W => specJobOk N p s W)
  have C6 := Lib.hid (fun W (h : Below w.heap.size w W) => specVals A n c vs W (hv.below h) hn)
  have C7 := Lib.hid (fun W (h : Below w.heap.size w W) => specVals B m d ev W (he.below h) hm)
  have C8 := Lib.hid (fun W (h : Below w.heap.size w W) => specSetOk nn C j k nx W (hx.below h) hj)
  have C9 := Lib.hid (fun W (h : Below w.heap.size w W) => specMembers nn C j k nx W (hx.below h) hj)
  unfold MadeMs at C9
  have BG := Lib.hid ((Blk.new w #[.int .i64 N, .slice AG l cG] 44).alloc (.cells #[.int .i64 p, .int .i64 s, .int .i64 it, .bool dn, .slice A n c, .slice B m d, .int .i64 nn, .slice C j k] 39))
  have BR := Lib.hid (Blk.new (w.alloc (.cells #[.int .i64 N, .slice AG l cG] 44)) #[.int .i64 p, .int .i64 s, .int .i64 it, .bool dn, .slice A n c, .slice B m d, .int .i64 nn, .slice C j k] 39)
  have H := Lib.hid (below_a2 w (.cells #[.int .i64 N, .slice AG l cG] 44) (.cells #[.int .i64 p, .int .i64 s, .int .i64 it, .bool dn, .slice A n c, .slice B m d, .int .i64 nn, .slice C j k] 39))
  rw [World.size_alloc] at BR
  rw [runS_at]
  clear hg hv he hx
  cases h0 : graphB N G with
  | false =>
    rw [h0] at C0
    simp only [Bool.false_and]
    clear h0
    go_enter Tryz.func23, Tryz.ntmps23
    have xBG0 := BG.out.cell (i := 0) rfl
    have xBG1 := BG.out.cell (i := 1) rfl
    have xBR0 := BR.out.cell (i := 0) rfl
    have xBR1 := BR.out.cell (i := 1) rfl
    have xBR2 := BR.out.cell (i := 2) rfl
    have xBR3 := BR.out.cell (i := 3) rfl
    have xBR4 := BR.out.cell (i := 4) rfl
    have xBR5 := BR.out.cell (i := 5) rfl
    have xBR6 := BR.out.cell (i := 6) rfl
    have xBR7 := BR.out.cell (i := 7) rfl
    go_wp2_with fail
    refine (C0.out _ H.out).mono ?_
    rintro e v1 ⟨rfl, hb⟩
    clear xBG0 xBG1 xBR0 xBR1 xBR2 xBR3 xBR4 xBR5 xBR6 xBR7
    replace H := Lib.hid (g_chain H.out hb)
    replace BG := Lib.hid (BG.out.below hb)
    replace BR := Lib.hid (BR.out.below hb)
    clear hb
    have xBG0 := BG.out.cell (i := 0) rfl
    have xBG1 := BG.out.cell (i := 1) rfl
    have xBR0 := BR.out.cell (i := 0) rfl
    have xBR1 := BR.out.cell (i := 1) rfl
    have xBR2 := BR.out.cell (i := 2) rfl
    have xBR3 := BR.out.cell (i := 3) rfl
    have xBR4 := BR.out.cell (i := 4) rfl
    have xBR5 := BR.out.cell (i := 5) rfl
    have xBR6 := BR.out.cell (i := 6) rfl
    have xBR7 := BR.out.cell (i := 7) rfl
    go_wp2
    go_ret
    exact ⟨rfl, H.out⟩
  | true =>
  rw [h0] at C0
  cases h1 : jobB N p s with
  | false =>
    rw [h1] at C1
    simp only [Bool.true_and, Bool.false_and]
    clear h1
    go_enter Tryz.func23, Tryz.ntmps23
    have xBG0 := BG.out.cell (i := 0) rfl
    have xBG1 := BG.out.cell (i := 1) rfl
    have xBR0 := BR.out.cell (i := 0) rfl
    have xBR1 := BR.out.cell (i := 1) rfl
    have xBR2 := BR.out.cell (i := 2) rfl
    have xBR3 := BR.out.cell (i := 3) rfl
    have xBR4 := BR.out.cell (i := 4) rfl
    have xBR5 := BR.out.cell (i := 5) rfl
    have xBR6 := BR.out.cell (i := 6) rfl
    have xBR7 := BR.out.cell (i := 7) rfl
    go_wp2_with fail
    refine (C0.out _ H.out).mono ?_
    rintro e v1 ⟨rfl, hb⟩
    clear xBG0 xBG1 xBR0 xBR1 xBR2 xBR3 xBR4 xBR5 xBR6 xBR7
    replace H := Lib.hid (g_chain H.out hb)
    replace BG := Lib.hid (BG.out.below hb)
    replace BR := Lib.hid (BR.out.below hb)
    clear hb
    have xBG0 := BG.out.cell (i := 0) rfl
    have xBG1 := BG.out.cell (i := 1) rfl
    have xBR0 := BR.out.cell (i := 0) rfl
    have xBR1 := BR.out.cell (i := 1) rfl
    have xBR2 := BR.out.cell (i := 2) rfl
    have xBR3 := BR.out.cell (i := 3) rfl
    have xBR4 := BR.out.cell (i := 4) rfl
    have xBR5 := BR.out.cell (i := 5) rfl
    have xBR6 := BR.out.cell (i := 6) rfl
    have xBR7 := BR.out.cell (i := 7) rfl
    go_wp2_with fail
    refine (C1.out _).mono ?_
    rintro e v2 ⟨rfl, hb⟩
    clear xBG0 xBG1 xBR0 xBR1 xBR2 xBR3 xBR4 xBR5 xBR6 xBR7
    replace H := Lib.hid (g_chain H.out hb)
    replace BG := Lib.hid (BG.out.below hb)
    replace BR := Lib.hid (BR.out.below hb)
    clear hb
    have xBG0 := BG.out.cell (i := 0) rfl
    have xBG1 := BG.out.cell (i := 1) rfl
    have xBR0 := BR.out.cell (i := 0) rfl
    have xBR1 := BR.out.cell (i := 1) rfl
    have xBR2 := BR.out.cell (i := 2) rfl
    have xBR3 := BR.out.cell (i := 3) rfl
    have xBR4 := BR.out.cell (i := 4) rfl
    have xBR5 := BR.out.cell (i := 5) rfl
    have xBR6 := BR.out.cell (i := 6) rfl
    have xBR7 := BR.out.cell (i := 7) rfl
    go_wp2
    go_ret
    exact ⟨rfl, H.out⟩
  | true =>
  rw [h1] at C1
  simp only [Bool.true_and]
  clear h0 h1
  by_cases h2 : 0 ≤ it
  rotate_left
  · have hz : decide (0 ≤ it ∧ it ≤ 1000) = false := by simp [h2]
    rw [hz, Bool.false_and]
    clear hz
    have h2n : it < 0 := by omega
    go_enter Tryz.func23, Tryz.ntmps23
    have xBG0 := BG.out.cell (i := 0) rfl
    have xBG1 := BG.out.cell (i := 1) rfl
    have xBR0 := BR.out.cell (i := 0) rfl
    have xBR1 := BR.out.cell (i := 1) rfl
    have xBR2 := BR.out.cell (i := 2) rfl
    have xBR3 := BR.out.cell (i := 3) rfl
    have xBR4 := BR.out.cell (i := 4) rfl
    have xBR5 := BR.out.cell (i := 5) rfl
    have xBR6 := BR.out.cell (i := 6) rfl
    have xBR7 := BR.out.cell (i := 7) rfl
    go_wp2_with fail
    refine (C0.out _ H.out).mono ?_
    rintro e v1 ⟨rfl, hb⟩
    clear xBG0 xBG1 xBR0 xBR1 xBR2 xBR3 xBR4 xBR5 xBR6 xBR7
    replace H := Lib.hid (g_chain H.out hb)
    replace BG := Lib.hid (BG.out.below hb)
    replace BR := Lib.hid (BR.out.below hb)
    clear hb
    have xBG0 := BG.out.cell (i := 0) rfl
    have xBG1 := BG.out.cell (i := 1) rfl
    have xBR0 := BR.out.cell (i := 0) rfl
    have xBR1 := BR.out.cell (i := 1) rfl
    have xBR2 := BR.out.cell (i := 2) rfl
    have xBR3 := BR.out.cell (i := 3) rfl
    have xBR4 := BR.out.cell (i := 4) rfl
    have xBR5 := BR.out.cell (i := 5) rfl
    have xBR6 := BR.out.cell (i := 6) rfl
    have xBR7 := BR.out.cell (i := 7) rfl
    go_wp2_with fail
    refine (C1.out _).mono ?_
    rintro e v2 ⟨rfl, hb⟩
    clear xBG0 xBG1 xBR0 xBR1 xBR2 xBR3 xBR4 xBR5 xBR6 xBR7
    replace H := Lib.hid (g_chain H.out hb)
    replace BG := Lib.hid (BG.out.below hb)
    replace BR := Lib.hid (BR.out.below hb)
    clear hb
    have xBG0 := BG.out.cell (i := 0) rfl
    have xBG1 := BG.out.cell (i := 1) rfl
    have xBR0 := BR.out.cell (i := 0) rfl
    have xBR1 := BR.out.cell (i := 1) rfl
    have xBR2 := BR.out.cell (i := 2) rfl
    have xBR3 := BR.out.cell (i := 3) rfl
    have xBR4 := BR.out.cell (i := 4) rfl
    have xBR5 := BR.out.cell (i := 5) rfl
    have xBR6 := BR.out.cell (i := 6) rfl
    have xBR7 := BR.out.cell (i := 7) rfl
    go_wp2
    go_ret
    exact ⟨rfl, H.out⟩
  by_cases h3 : it ≤ 1000
  rotate_left
  · have hz : decide (0 ≤ it ∧ it ≤ 1000) = false := by simp [h3]
    rw [hz, Bool.false_and]
    clear hz
    have h3n : 1000 < it := by omega
    go_enter Tryz.func23, Tryz.ntmps23
    have xBG0 := BG.out.cell (i := 0) rfl
    have xBG1 := BG.out.cell (i := 1) rfl
    have xBR0 := BR.out.cell (i := 0) rfl
    have xBR1 := BR.out.cell (i := 1) rfl
    have xBR2 := BR.out.cell (i := 2) rfl
    have xBR3 := BR.out.cell (i := 3) rfl
    have xBR4 := BR.out.cell (i := 4) rfl
    have xBR5 := BR.out.cell (i := 5) rfl
    have xBR6 := BR.out.cell (i := 6) rfl
    have xBR7 := BR.out.cell (i := 7) rfl
    go_wp2_with fail
    refine (C0.out _ H.out).mono ?_
    rintro e v1 ⟨rfl, hb⟩
    clear xBG0 xBG1 xBR0 xBR1 xBR2 xBR3 xBR4 xBR5 xBR6 xBR7
    replace H := Lib.hid (g_chain H.out hb)
    replace BG := Lib.hid (BG.out.below hb)
    replace BR := Lib.hid (BR.out.below hb)
    clear hb
    have xBG0 := BG.out.cell (i := 0) rfl
    have xBG1 := BG.out.cell (i := 1) rfl
    have xBR0 := BR.out.cell (i := 0) rfl
    have xBR1 := BR.out.cell (i := 1) rfl
    have xBR2 := BR.out.cell (i := 2) rfl
    have xBR3 := BR.out.cell (i := 3) rfl
    have xBR4 := BR.out.cell (i := 4) rfl
    have xBR5 := BR.out.cell (i := 5) rfl
    have xBR6 := BR.out.cell (i := 6) rfl
    have xBR7 := BR.out.cell (i := 7) rfl
    go_wp2_with fail
    refine (C1.out _).mono ?_
    rintro e v2 ⟨rfl, hb⟩
    clear xBG0 xBG1 xBR0 xBR1 xBR2 xBR3 xBR4 xBR5 xBR6 xBR7
    replace H := Lib.hid (g_chain H.out hb)
    replace BG := Lib.hid (BG.out.below hb)
    replace BR := Lib.hid (BR.out.below hb)
    clear hb
    have xBG0 := BG.out.cell (i := 0) rfl
    have xBG1 := BG.out.cell (i := 1) rfl
    have xBR0 := BR.out.cell (i := 0) rfl
    have xBR1 := BR.out.cell (i := 1) rfl
    have xBR2 := BR.out.cell (i := 2) rfl
    have xBR3 := BR.out.cell (i := 3) rfl
    have xBR4 := BR.out.cell (i := 4) rfl
    have xBR5 := BR.out.cell (i := 5) rfl
    have xBR6 := BR.out.cell (i := 6) rfl
    have xBR7 := BR.out.cell (i := 7) rfl
    go_wp2
    go_ret
    exact ⟨rfl, H.out⟩
  have hz : decide (0 ≤ it ∧ it ≤ 1000) = true := by simp [h2, h3]
  rw [hz, Bool.true_and]
  clear hz
  by_cases h4 : (n : Int) = N
  rotate_left
  · have hz : decide ((vs.length : Int) = N ∧ ev.length = G.length) = false := by rw [LV.out]; simp [h4]
    rw [hz, Bool.false_and]
    clear hz
    go_enter Tryz.func23, Tryz.ntmps23
    have xBG0 := BG.out.cell (i := 0) rfl
    have xBG1 := BG.out.cell (i := 1) rfl
    have xBR0 := BR.out.cell (i := 0) rfl
    have xBR1 := BR.out.cell (i := 1) rfl
    have xBR2 := BR.out.cell (i := 2) rfl
    have xBR3 := BR.out.cell (i := 3) rfl
    have xBR4 := BR.out.cell (i := 4) rfl
    have xBR5 := BR.out.cell (i := 5) rfl
    have xBR6 := BR.out.cell (i := 6) rfl
    have xBR7 := BR.out.cell (i := 7) rfl
    go_wp2_with fail
    refine (C0.out _ H.out).mono ?_
    rintro e v1 ⟨rfl, hb⟩
    clear xBG0 xBG1 xBR0 xBR1 xBR2 xBR3 xBR4 xBR5 xBR6 xBR7
    replace H := Lib.hid (g_chain H.out hb)
    replace BG := Lib.hid (BG.out.below hb)
    replace BR := Lib.hid (BR.out.below hb)
    clear hb
    have xBG0 := BG.out.cell (i := 0) rfl
    have xBG1 := BG.out.cell (i := 1) rfl
    have xBR0 := BR.out.cell (i := 0) rfl
    have xBR1 := BR.out.cell (i := 1) rfl
    have xBR2 := BR.out.cell (i := 2) rfl
    have xBR3 := BR.out.cell (i := 3) rfl
    have xBR4 := BR.out.cell (i := 4) rfl
    have xBR5 := BR.out.cell (i := 5) rfl
    have xBR6 := BR.out.cell (i := 6) rfl
    have xBR7 := BR.out.cell (i := 7) rfl
    go_wp2_with fail
    refine (C1.out _).mono ?_
    rintro e v2 ⟨rfl, hb⟩
    clear xBG0 xBG1 xBR0 xBR1 xBR2 xBR3 xBR4 xBR5 xBR6 xBR7
    replace H := Lib.hid (g_chain H.out hb)
    replace BG := Lib.hid (BG.out.below hb)
    replace BR := Lib.hid (BR.out.below hb)
    clear hb
    have xBG0 := BG.out.cell (i := 0) rfl
    have xBG1 := BG.out.cell (i := 1) rfl
    have xBR0 := BR.out.cell (i := 0) rfl
    have xBR1 := BR.out.cell (i := 1) rfl
    have xBR2 := BR.out.cell (i := 2) rfl
    have xBR3 := BR.out.cell (i := 3) rfl
    have xBR4 := BR.out.cell (i := 4) rfl
    have xBR5 := BR.out.cell (i := 5) rfl
    have xBR6 := BR.out.cell (i := 6) rfl
    have xBR7 := BR.out.cell (i := 7) rfl
    go_wp2
    go_ret
    exact ⟨rfl, H.out⟩
  by_cases h5 : m = l
  rotate_left
  · have hz : decide ((vs.length : Int) = N ∧ ev.length = G.length) = false := by rw [LE.out, LG.out]; simp [h5]
    rw [hz, Bool.false_and]
    clear hz
    have h5n : ((m : Int) != (l : Int)) = true := by simp; omega
    have h5m : ¬ (m : Int) = (l : Int) := by omega
    go_enter Tryz.func23, Tryz.ntmps23
    have xBG0 := BG.out.cell (i := 0) rfl
    have xBG1 := BG.out.cell (i := 1) rfl
    have xBR0 := BR.out.cell (i := 0) rfl
    have xBR1 := BR.out.cell (i := 1) rfl
    have xBR2 := BR.out.cell (i := 2) rfl
    have xBR3 := BR.out.cell (i := 3) rfl
    have xBR4 := BR.out.cell (i := 4) rfl
    have xBR5 := BR.out.cell (i := 5) rfl
    have xBR6 := BR.out.cell (i := 6) rfl
    have xBR7 := BR.out.cell (i := 7) rfl
    go_wp2_with fail
    refine (C0.out _ H.out).mono ?_
    rintro e v1 ⟨rfl, hb⟩
    clear xBG0 xBG1 xBR0 xBR1 xBR2 xBR3 xBR4 xBR5 xBR6 xBR7
    replace H := Lib.hid (g_chain H.out hb)
    replace BG := Lib.hid (BG.out.below hb)
    replace BR := Lib.hid (BR.out.below hb)
    clear hb
    have xBG0 := BG.out.cell (i := 0) rfl
    have xBG1 := BG.out.cell (i := 1) rfl
    have xBR0 := BR.out.cell (i := 0) rfl
    have xBR1 := BR.out.cell (i := 1) rfl
    have xBR2 := BR.out.cell (i := 2) rfl
    have xBR3 := BR.out.cell (i := 3) rfl
    have xBR4 := BR.out.cell (i := 4) rfl
    have xBR5 := BR.out.cell (i := 5) rfl
    have xBR6 := BR.out.cell (i := 6) rfl
    have xBR7 := BR.out.cell (i := 7) rfl
    go_wp2_with fail
    refine (C1.out _).mono ?_
    rintro e v2 ⟨rfl, hb⟩
    clear xBG0 xBG1 xBR0 xBR1 xBR2 xBR3 xBR4 xBR5 xBR6 xBR7
    replace H := Lib.hid (g_chain H.out hb)
    replace BG := Lib.hid (BG.out.below hb)
    replace BR := Lib.hid (BR.out.below hb)
    clear hb
    have xBG0 := BG.out.cell (i := 0) rfl
    have xBG1 := BG.out.cell (i := 1) rfl
    have xBR0 := BR.out.cell (i := 0) rfl
    have xBR1 := BR.out.cell (i := 1) rfl
    have xBR2 := BR.out.cell (i := 2) rfl
    have xBR3 := BR.out.cell (i := 3) rfl
    have xBR4 := BR.out.cell (i := 4) rfl
    have xBR5 := BR.out.cell (i := 5) rfl
    have xBR6 := BR.out.cell (i := 6) rfl
    have xBR7 := BR.out.cell (i := 7) rfl
    go_wp2
    go_ret
    exact ⟨rfl, H.out⟩
  have hz : decide ((vs.length : Int) = N ∧ ev.length = G.length) = true := by rw [LV.out, LE.out, LG.out]; simp [h4, h5]
  rw [hz, Bool.true_and]
  clear hz LV LE LG
  subst h4 h5
  generalize valsB vs = t6 at C6 ⊢
  generalize valsB ev = t7 at C7 ⊢
  generalize setB nn nx = t8 at C8 ⊢
  generalize memsB nn nx = rs at C9 ⊢
  cases t6 with
  | false =>
    simp only [Bool.false_and]
    go_enter Tryz.func23, Tryz.ntmps23
    have xBG0 := BG.out.cell (i := 0) rfl
    have xBG1 := BG.out.cell (i := 1) rfl
    have xBR0 := BR.out.cell (i := 0) rfl
    have xBR1 := BR.out.cell (i := 1) rfl
    have xBR2 := BR.out.cell (i := 2) rfl
    have xBR3 := BR.out.cell (i := 3) rfl
    have xBR4 := BR.out.cell (i := 4) rfl
    have xBR5 := BR.out.cell (i := 5) rfl
    have xBR6 := BR.out.cell (i := 6) rfl
    have xBR7 := BR.out.cell (i := 7) rfl
    go_wp2_with fail
    refine (C0.out _ H.out).mono ?_
    rintro e v1 ⟨rfl, hb⟩
    clear xBG0 xBG1 xBR0 xBR1 xBR2 xBR3 xBR4 xBR5 xBR6 xBR7
    replace H := Lib.hid (g_chain H.out hb)
    replace BG := Lib.hid (BG.out.below hb)
    replace BR := Lib.hid (BR.out.below hb)
    clear hb
    have xBG0 := BG.out.cell (i := 0) rfl
    have xBG1 := BG.out.cell (i := 1) rfl
    have xBR0 := BR.out.cell (i := 0) rfl
    have xBR1 := BR.out.cell (i := 1) rfl
    have xBR2 := BR.out.cell (i := 2) rfl
    have xBR3 := BR.out.cell (i := 3) rfl
    have xBR4 := BR.out.cell (i := 4) rfl
    have xBR5 := BR.out.cell (i := 5) rfl
    have xBR6 := BR.out.cell (i := 6) rfl
    have xBR7 := BR.out.cell (i := 7) rfl
    go_wp2_with fail
    refine (C1.out _).mono ?_
    rintro e v2 ⟨rfl, hb⟩
    clear xBG0 xBG1 xBR0 xBR1 xBR2 xBR3 xBR4 xBR5 xBR6 xBR7
    replace H := Lib.hid (g_chain H.out hb)
    replace BG := Lib.hid (BG.out.below hb)
    replace BR := Lib.hid (BR.out.below hb)
    clear hb
    have xBG0 := BG.out.cell (i := 0) rfl
    have xBG1 := BG.out.cell (i := 1) rfl
    have xBR0 := BR.out.cell (i := 0) rfl
    have xBR1 := BR.out.cell (i := 1) rfl
    have xBR2 := BR.out.cell (i := 2) rfl
    have xBR3 := BR.out.cell (i := 3) rfl
    have xBR4 := BR.out.cell (i := 4) rfl
    have xBR5 := BR.out.cell (i := 5) rfl
    have xBR6 := BR.out.cell (i := 6) rfl
    have xBR7 := BR.out.cell (i := 7) rfl
    go_wp2_with fail
    refine (C6.out _ H.out).mono ?_
    rintro e v3 ⟨rfl, rfl⟩
    clear xBG0 xBG1 xBR0 xBR1 xBR2 xBR3 xBR4 xBR5 xBR6 xBR7
    have xBG0 := BG.out.cell (i := 0) rfl
    have xBG1 := BG.out.cell (i := 1) rfl
    have xBR0 := BR.out.cell (i := 0) rfl
    have xBR1 := BR.out.cell (i := 1) rfl
    have xBR2 := BR.out.cell (i := 2) rfl
    have xBR3 := BR.out.cell (i := 3) rfl
    have xBR4 := BR.out.cell (i := 4) rfl
    have xBR5 := BR.out.cell (i := 5) rfl
    have xBR6 := BR.out.cell (i := 6) rfl
    have xBR7 := BR.out.cell (i := 7) rfl
    go_wp2
    go_ret
    exact ⟨rfl, H.out⟩
  | true =>
  cases t7 with
  | false =>
    simp only [Bool.true_and, Bool.false_and]
    go_enter Tryz.func23, Tryz.ntmps23
    have xBG0 := BG.out.cell (i := 0) rfl
    have xBG1 := BG.out.cell (i := 1) rfl
    have xBR0 := BR.out.cell (i := 0) rfl
    have xBR1 := BR.out.cell (i := 1) rfl
    have xBR2 := BR.out.cell (i := 2) rfl
    have xBR3 := BR.out.cell (i := 3) rfl
    have xBR4 := BR.out.cell (i := 4) rfl
    have xBR5 := BR.out.cell (i := 5) rfl
    have xBR6 := BR.out.cell (i := 6) rfl
    have xBR7 := BR.out.cell (i := 7) rfl
    go_wp2_with fail
    refine (C0.out _ H.out).mono ?_
    rintro e v1 ⟨rfl, hb⟩
    clear xBG0 xBG1 xBR0 xBR1 xBR2 xBR3 xBR4 xBR5 xBR6 xBR7
    replace H := Lib.hid (g_chain H.out hb)
    replace BG := Lib.hid (BG.out.below hb)
    replace BR := Lib.hid (BR.out.below hb)
    clear hb
    have xBG0 := BG.out.cell (i := 0) rfl
    have xBG1 := BG.out.cell (i := 1) rfl
    have xBR0 := BR.out.cell (i := 0) rfl
    have xBR1 := BR.out.cell (i := 1) rfl
    have xBR2 := BR.out.cell (i := 2) rfl
    have xBR3 := BR.out.cell (i := 3) rfl
    have xBR4 := BR.out.cell (i := 4) rfl
    have xBR5 := BR.out.cell (i := 5) rfl
    have xBR6 := BR.out.cell (i := 6) rfl
    have xBR7 := BR.out.cell (i := 7) rfl
    go_wp2_with fail
    refine (C1.out _).mono ?_
    rintro e v2 ⟨rfl, hb⟩
    clear xBG0 xBG1 xBR0 xBR1 xBR2 xBR3 xBR4 xBR5 xBR6 xBR7
    replace H := Lib.hid (g_chain H.out hb)
    replace BG := Lib.hid (BG.out.below hb)
    replace BR := Lib.hid (BR.out.below hb)
    clear hb
    have xBG0 := BG.out.cell (i := 0) rfl
    have xBG1 := BG.out.cell (i := 1) rfl
    have xBR0 := BR.out.cell (i := 0) rfl
    have xBR1 := BR.out.cell (i := 1) rfl
    have xBR2 := BR.out.cell (i := 2) rfl
    have xBR3 := BR.out.cell (i := 3) rfl
    have xBR4 := BR.out.cell (i := 4) rfl
    have xBR5 := BR.out.cell (i := 5) rfl
    have xBR6 := BR.out.cell (i := 6) rfl
    have xBR7 := BR.out.cell (i := 7) rfl
    go_wp2_with fail
    refine (C6.out _ H.out).mono ?_
    rintro e v3 ⟨rfl, rfl⟩
    clear xBG0 xBG1 xBR0 xBR1 xBR2 xBR3 xBR4 xBR5 xBR6 xBR7
    have xBG0 := BG.out.cell (i := 0) rfl
    have xBG1 := BG.out.cell (i := 1) rfl
    have xBR0 := BR.out.cell (i := 0) rfl
    have xBR1 := BR.out.cell (i := 1) rfl
    have xBR2 := BR.out.cell (i := 2) rfl
    have xBR3 := BR.out.cell (i := 3) rfl
    have xBR4 := BR.out.cell (i := 4) rfl
    have xBR5 := BR.out.cell (i := 5) rfl
    have xBR6 := BR.out.cell (i := 6) rfl
    have xBR7 := BR.out.cell (i := 7) rfl
    go_wp2_with fail
    refine (C7.out _ H.out).mono ?_
    rintro e v4 ⟨rfl, rfl⟩
    clear xBG0 xBG1 xBR0 xBR1 xBR2 xBR3 xBR4 xBR5 xBR6 xBR7
    have xBG0 := BG.out.cell (i := 0) rfl
    have xBG1 := BG.out.cell (i := 1) rfl
    have xBR0 := BR.out.cell (i := 0) rfl
    have xBR1 := BR.out.cell (i := 1) rfl
    have xBR2 := BR.out.cell (i := 2) rfl
    have xBR3 := BR.out.cell (i := 3) rfl
    have xBR4 := BR.out.cell (i := 4) rfl
    have xBR5 := BR.out.cell (i := 5) rfl
    have xBR6 := BR.out.cell (i := 6) rfl
    have xBR7 := BR.out.cell (i := 7) rfl
    go_wp2
    go_ret
    exact ⟨rfl, H.out⟩
  | true =>
  cases t8 with
  | false =>
    simp only [Bool.true_and, Bool.false_and]
    go_enter Tryz.func23, Tryz.ntmps23
    have xBG0 := BG.out.cell (i := 0) rfl
    have xBG1 := BG.out.cell (i := 1) rfl
    have xBR0 := BR.out.cell (i := 0) rfl
    have xBR1 := BR.out.cell (i := 1) rfl
    have xBR2 := BR.out.cell (i := 2) rfl
    have xBR3 := BR.out.cell (i := 3) rfl
    have xBR4 := BR.out.cell (i := 4) rfl
    have xBR5 := BR.out.cell (i := 5) rfl
    have xBR6 := BR.out.cell (i := 6) rfl
    have xBR7 := BR.out.cell (i := 7) rfl
    go_wp2_with fail
    refine (C0.out _ H.out).mono ?_
    rintro e v1 ⟨rfl, hb⟩
    clear xBG0 xBG1 xBR0 xBR1 xBR2 xBR3 xBR4 xBR5 xBR6 xBR7
    replace H := Lib.hid (g_chain H.out hb)
    replace BG := Lib.hid (BG.out.below hb)
    replace BR := Lib.hid (BR.out.below hb)
    clear hb
    have xBG0 := BG.out.cell (i := 0) rfl
    have xBG1 := BG.out.cell (i := 1) rfl
    have xBR0 := BR.out.cell (i := 0) rfl
    have xBR1 := BR.out.cell (i := 1) rfl
    have xBR2 := BR.out.cell (i := 2) rfl
    have xBR3 := BR.out.cell (i := 3) rfl
    have xBR4 := BR.out.cell (i := 4) rfl
    have xBR5 := BR.out.cell (i := 5) rfl
    have xBR6 := BR.out.cell (i := 6) rfl
    have xBR7 := BR.out.cell (i := 7) rfl
    go_wp2_with fail
    refine (C1.out _).mono ?_
    rintro e v2 ⟨rfl, hb⟩
    clear xBG0 xBG1 xBR0 xBR1 xBR2 xBR3 xBR4 xBR5 xBR6 xBR7
    replace H := Lib.hid (g_chain H.out hb)
    replace BG := Lib.hid (BG.out.below hb)
    replace BR := Lib.hid (BR.out.below hb)
    clear hb
    have xBG0 := BG.out.cell (i := 0) rfl
    have xBG1 := BG.out.cell (i := 1) rfl
    have xBR0 := BR.out.cell (i := 0) rfl
    have xBR1 := BR.out.cell (i := 1) rfl
    have xBR2 := BR.out.cell (i := 2) rfl
    have xBR3 := BR.out.cell (i := 3) rfl
    have xBR4 := BR.out.cell (i := 4) rfl
    have xBR5 := BR.out.cell (i := 5) rfl
    have xBR6 := BR.out.cell (i := 6) rfl
    have xBR7 := BR.out.cell (i := 7) rfl
    go_wp2_with fail
    refine (C6.out _ H.out).mono ?_
    rintro e v3 ⟨rfl, rfl⟩
    clear xBG0 xBG1 xBR0 xBR1 xBR2 xBR3 xBR4 xBR5 xBR6 xBR7
    have xBG0 := BG.out.cell (i := 0) rfl
    have xBG1 := BG.out.cell (i := 1) rfl
    have xBR0 := BR.out.cell (i := 0) rfl
    have xBR1 := BR.out.cell (i := 1) rfl
    have xBR2 := BR.out.cell (i := 2) rfl
    have xBR3 := BR.out.cell (i := 3) rfl
    have xBR4 := BR.out.cell (i := 4) rfl
    have xBR5 := BR.out.cell (i := 5) rfl
    have xBR6 := BR.out.cell (i := 6) rfl
    have xBR7 := BR.out.cell (i := 7) rfl
    go_wp2_with fail
    refine (C7.out _ H.out).mono ?_
    rintro e v4 ⟨rfl, rfl⟩
    clear xBG0 xBG1 xBR0 xBR1 xBR2 xBR3 xBR4 xBR5 xBR6 xBR7
    have xBG0 := BG.out.cell (i := 0) rfl
    have xBG1 := BG.out.cell (i := 1) rfl
    have xBR0 := BR.out.cell (i := 0) rfl
    have xBR1 := BR.out.cell (i := 1) rfl
    have xBR2 := BR.out.cell (i := 2) rfl
    have xBR3 := BR.out.cell (i := 3) rfl
    have xBR4 := BR.out.cell (i := 4) rfl
    have xBR5 := BR.out.cell (i := 5) rfl
    have xBR6 := BR.out.cell (i := 6) rfl
    have xBR7 := BR.out.cell (i := 7) rfl
    go_upto_region 3 with fail
    clear xBG0 xBG1 xBR0 xBR1 xBR2 xBR3 xBR4 xBR5 xBR6 xBR7
    refine wp_region_any (by kernel_rfl) ?_
    change wpAny _ _ _ _ _ _ _ (World.drew _)
    replace H : Hid (Below w.heap.size w (World.drew _)) := Lib.hid H.out.drew
    replace BG := Lib.hid BG.out.drew
    replace BR := Lib.hid BR.out.drew
    generalize World.drew _ = wd at H BG BR ⊢
    refine wpAny_of_held (S := fun W => W.cell? ⟨w.heap.size, 0, none⟩ = some (.int .i64 (n : Int)) ∧ W.cell? ⟨w.heap.size, 1, none⟩ = some (.slice AG m cG) ∧ W.cell? ⟨w.heap.size + 1, 0, none⟩ = some (.int .i64 p) ∧ W.cell? ⟨w.heap.size + 1, 1, none⟩ = some (.int .i64 s) ∧ W.cell? ⟨w.heap.size + 1, 2, none⟩ = some (.int .i64 it) ∧ W.cell? ⟨w.heap.size + 1, 3, none⟩ = some (.bool dn) ∧ W.cell? ⟨w.heap.size + 1, 4, none⟩ = some (.slice A n c) ∧ W.cell? ⟨w.heap.size + 1, 5, none⟩ = some (.slice B m d) ∧ W.cell? ⟨w.heap.size + 1, 6, none⟩ = some (.int .i64 nn) ∧ W.cell? ⟨w.heap.size + 1, 7, none⟩ = some (.slice C j k)) _ _ _ _ ?_
    refine held_nameS ⟨BG.out.cell (i := 0) rfl, BG.out.cell (i := 1) rfl, BR.out.cell (i := 0) rfl, BR.out.cell (i := 1) rfl, BR.out.cell (i := 2) rfl, BR.out.cell (i := 3) rfl, BR.out.cell (i := 4) rfl, BR.out.cell (i := 5) rfl, BR.out.cell (i := 6) rfl, BR.out.cell (i := 7) rfl⟩ (fun hS => ?_)
    refine wpAnyH_take (i := 0) (oi := ⟨_, _, _, _, _, _⟩) (v := .pointer (some ⟨w.heap.size + 1, 6, none⟩)) rfl (by kernel_rfl) (by kernel_rfl) (by kernel_rfl) (fun _ _ _ h => h) (Or.inl ⟨by kernel_rfl, fun W hS => by (obtain ⟨s0, s1, s2, s3, s4, s5, s6, s7, s8, s9⟩ := hS); go_simp⟩) hS ?_
    (try simp only [Act.put, List.setIfInBounds_toArray, List.set_cons_zero, List.set_cons_succ])
    refine wpAnyH_take (i := 1) (oi := ⟨_, _, _, _, _, _⟩) (v := .agg #[.int .i64 nn, .slice C j k]) rfl (by kernel_rfl) (by kernel_rfl) (by kernel_rfl) (fun _ _ _ h => h) (Or.inl ⟨by kernel_rfl, fun W hS => by (obtain ⟨s0, s1, s2, s3, s4, s5, s6, s7, s8, s9⟩ := hS); go_simp⟩) hS ?_
    (try simp only [Act.put, List.setIfInBounds_toArray, List.set_cons_zero, List.set_cons_succ])
    refine wpAnyH_ready (rs := [2]) (by kernel_rfl) (by simp) (AllReadyH.cons rfl (fun K hK => ?_) AllReadyH.nil)
    go_simp
    go_at_call 24
    refine (C8.out _ H.out).mono ?_
    rintro e v8 ⟨rfl, hb⟩
    replace H := Lib.hid (g_chain H.out hb)
    replace BG := Lib.hid (BG.out.below hb)
    replace BR := Lib.hid (BR.out.below hb)
    clear hb
    dsimp only
    refine hK.out _ _ ⟨BG.out.cell (i := 0) rfl, BG.out.cell (i := 1) rfl, BR.out.cell (i := 0) rfl, BR.out.cell (i := 1) rfl, BR.out.cell (i := 2) rfl, BR.out.cell (i := 3) rfl, BR.out.cell (i := 4) rfl, BR.out.cell (i := 5) rfl, BR.out.cell (i := 6) rfl, BR.out.cell (i := 7) rfl⟩ (fun hS => ?_)
    clear hK K
    (try simp only [Act.put, List.setIfInBounds_toArray, List.set_cons_zero, List.set_cons_succ])
    refine wpAnyH_take (i := 3) (oi := ⟨_, _, _, _, _, _⟩) (v := .bool false) rfl (by kernel_rfl) (by kernel_rfl) (by kernel_rfl) (fun _ _ _ h => h) (Or.inl ⟨by kernel_rfl, fun W hS => by (obtain ⟨s0, s1, s2, s3, s4, s5, s6, s7, s8, s9⟩ := hS); go_simp⟩) hS ?_
    (try simp only [Act.put, List.setIfInBounds_toArray, List.set_cons_zero, List.set_cons_succ])
    refine wpAnyH_take (i := 4) (oi := ⟨_, _, _, _, _, _⟩) (v := undef) rfl (by kernel_rfl) (by kernel_rfl) (by kernel_rfl) (fun _ _ _ h => h) (Or.inr ⟨by kernel_rfl, rfl⟩) hS ?_
    (try simp only [Act.put, List.setIfInBounds_toArray, List.set_cons_zero, List.set_cons_succ])
    refine wpAnyH_take (i := 5) (oi := ⟨_, _, _, _, _, _⟩) (v := undef) rfl (by kernel_rfl) (by kernel_rfl) (by kernel_rfl) (fun _ _ _ h => h) (Or.inr ⟨by kernel_rfl, rfl⟩) hS ?_
    (try simp only [Act.put, List.setIfInBounds_toArray, List.set_cons_zero, List.set_cons_succ])
    refine wpAnyH_take (i := 6) (oi := ⟨_, _, _, _, _, _⟩) (v := undef) rfl (by kernel_rfl) (by kernel_rfl) (by kernel_rfl) (fun _ _ _ h => h) (Or.inr ⟨by kernel_rfl, rfl⟩) hS ?_
    (try simp only [Act.put, List.setIfInBounds_toArray, List.set_cons_zero, List.set_cons_succ])
    refine wpAnyH_take (i := 7) (oi := ⟨_, _, _, _, _, _⟩) (v := undef) rfl (by kernel_rfl) (by kernel_rfl) (by kernel_rfl) (fun _ _ _ h => h) (Or.inr ⟨by kernel_rfl, rfl⟩) hS ?_
    (try simp only [Act.put, List.setIfInBounds_toArray, List.set_cons_zero, List.set_cons_succ])
    refine wpAnyH_take (i := 8) (oi := ⟨_, _, _, _, _, _⟩) (v := undef) rfl (by kernel_rfl) (by kernel_rfl) (by kernel_rfl) (fun _ _ _ h => h) (Or.inr ⟨by kernel_rfl, rfl⟩) hS ?_
    (try simp only [Act.put, List.setIfInBounds_toArray, List.set_cons_zero, List.set_cons_succ])
    refine wpAnyH_take (i := 9) (oi := ⟨_, _, _, _, _, _⟩) (v := undef) rfl (by kernel_rfl) (by kernel_rfl) (by kernel_rfl) (fun _ _ _ h => h) (Or.inr ⟨by kernel_rfl, rfl⟩) hS ?_
    (try simp only [Act.put, List.setIfInBounds_toArray, List.set_cons_zero, List.set_cons_succ])
    refine wpAnyH_take (i := 10) (oi := ⟨_, _, _, _, _, _⟩) (v := .bool false) rfl (by kernel_rfl) (by kernel_rfl) (by kernel_rfl) (fun _ _ _ h => h) (Or.inl ⟨by kernel_rfl, fun W hS => by (obtain ⟨s0, s1, s2, s3, s4, s5, s6, s7, s8, s9⟩ := hS); go_simp⟩) hS ?_
    (try simp only [Act.put, List.setIfInBounds_toArray, List.set_cons_zero, List.set_cons_succ])
    refine wpAnyH_take (i := 11) (oi := ⟨_, _, _, _, _, _⟩) (v := .bool false) rfl (by kernel_rfl) (by kernel_rfl) (by kernel_rfl) (fun _ _ _ h => h) (Or.inl ⟨by kernel_rfl, fun W hS => by (obtain ⟨s0, s1, s2, s3, s4, s5, s6, s7, s8, s9⟩ := hS); go_simp⟩) hS ?_
    (try simp only [Act.put, List.setIfInBounds_toArray, List.set_cons_zero, List.set_cons_succ])
    refine wpAnyH_take (i := 12) (oi := ⟨_, _, _, _, _, _⟩) (v := undef) rfl (by kernel_rfl) (by kernel_rfl) (by kernel_rfl) (fun _ _ _ h => h) (Or.inr ⟨by kernel_rfl, rfl⟩) hS ?_
    (try simp only [Act.put, List.setIfInBounds_toArray, List.set_cons_zero, List.set_cons_succ])
    refine wpAnyH_take (i := 13) (oi := ⟨_, _, _, _, _, _⟩) (v := undef) rfl (by kernel_rfl) (by kernel_rfl) (by kernel_rfl) (fun _ _ _ h => h) (Or.inr ⟨by kernel_rfl, rfl⟩) hS ?_
    (try simp only [Act.put, List.setIfInBounds_toArray, List.set_cons_zero, List.set_cons_succ])
    refine wpAnyH_take (i := 14) (oi := ⟨_, _, _, _, _, _⟩) (v := undef) rfl (by kernel_rfl) (by kernel_rfl) (by kernel_rfl) (fun _ _ _ h => h) (Or.inr ⟨by kernel_rfl, rfl⟩) hS ?_
    (try simp only [Act.put, List.setIfInBounds_toArray, List.set_cons_zero, List.set_cons_succ])
    refine wpAnyH_take (i := 15) (oi := ⟨_, _, _, _, _, _⟩) (v := undef) rfl (by kernel_rfl) (by kernel_rfl) (by kernel_rfl) (fun _ _ _ h => h) (Or.inr ⟨by kernel_rfl, rfl⟩) hS ?_
    (try simp only [Act.put, List.setIfInBounds_toArray, List.set_cons_zero, List.set_cons_succ])
    refine wpAnyH_take (i := 16) (oi := ⟨_, _, _, _, _, _⟩) (v := undef) rfl (by kernel_rfl) (by kernel_rfl) (by kernel_rfl) (fun _ _ _ h => h) (Or.inr ⟨by kernel_rfl, rfl⟩) hS ?_
    (try simp only [Act.put, List.setIfInBounds_toArray, List.set_cons_zero, List.set_cons_succ])
    refine wpAnyH_take (i := 17) (oi := ⟨_, _, _, _, _, _⟩) (v := undef) rfl (by kernel_rfl) (by kernel_rfl) (by kernel_rfl) (fun _ _ _ h => h) (Or.inr ⟨by kernel_rfl, rfl⟩) hS ?_
    (try simp only [Act.put, List.setIfInBounds_toArray, List.set_cons_zero, List.set_cons_succ])
    refine wpAnyH_take (i := 18) (oi := ⟨_, _, _, _, _, _⟩) (v := undef) rfl (by kernel_rfl) (by kernel_rfl) (by kernel_rfl) (fun _ _ _ h => h) (Or.inr ⟨by kernel_rfl, rfl⟩) hS ?_
    (try simp only [Act.put, List.setIfInBounds_toArray, List.set_cons_zero, List.set_cons_succ])
    refine wpAnyH_take (i := 19) (oi := ⟨_, _, _, _, _, _⟩) (v := undef) rfl (by kernel_rfl) (by kernel_rfl) (by kernel_rfl) (fun _ _ _ h => h) (Or.inr ⟨by kernel_rfl, rfl⟩) hS ?_
    (try simp only [Act.put, List.setIfInBounds_toArray, List.set_cons_zero, List.set_cons_succ])
    refine wpAnyH_take (i := 20) (oi := ⟨_, _, _, _, _, _⟩) (v := .bool false) rfl (by kernel_rfl) (by kernel_rfl) (by kernel_rfl) (fun _ _ _ h => h) (Or.inl ⟨by kernel_rfl, fun W hS => by (obtain ⟨s0, s1, s2, s3, s4, s5, s6, s7, s8, s9⟩ := hS); go_simp⟩) hS ?_
    (try simp only [Act.put, List.setIfInBounds_toArray, List.set_cons_zero, List.set_cons_succ])
    refine wpAnyH_take (i := 21) (oi := ⟨_, _, _, _, _, _⟩) (v := .bool false) rfl (by kernel_rfl) (by kernel_rfl) (by kernel_rfl) (fun _ _ _ h => h) (Or.inl ⟨by kernel_rfl, fun W hS => by (obtain ⟨s0, s1, s2, s3, s4, s5, s6, s7, s8, s9⟩ := hS); go_simp⟩) hS ?_
    (try simp only [Act.put, List.setIfInBounds_toArray, List.set_cons_zero, List.set_cons_succ])
    refine wpAnyH_done (by kernel_rfl) ?_ _
    go_wp2
    go_ret
    exact ⟨rfl, H.out⟩
  | true =>
  simp only [Bool.true_and]
  by_cases h9 : nn = (n : Int)
  rotate_left
  · have hz : decide (nn = (n : Int)) = false := by simp [h9]
    rw [hz, Bool.false_and]
    clear hz
    go_enter Tryz.func23, Tryz.ntmps23
    have xBG0 := BG.out.cell (i := 0) rfl
    have xBG1 := BG.out.cell (i := 1) rfl
    have xBR0 := BR.out.cell (i := 0) rfl
    have xBR1 := BR.out.cell (i := 1) rfl
    have xBR2 := BR.out.cell (i := 2) rfl
    have xBR3 := BR.out.cell (i := 3) rfl
    have xBR4 := BR.out.cell (i := 4) rfl
    have xBR5 := BR.out.cell (i := 5) rfl
    have xBR6 := BR.out.cell (i := 6) rfl
    have xBR7 := BR.out.cell (i := 7) rfl
    go_wp2_with fail
    refine (C0.out _ H.out).mono ?_
    rintro e v1 ⟨rfl, hb⟩
    clear xBG0 xBG1 xBR0 xBR1 xBR2 xBR3 xBR4 xBR5 xBR6 xBR7
    replace H := Lib.hid (g_chain H.out hb)
    replace BG := Lib.hid (BG.out.below hb)
    replace BR := Lib.hid (BR.out.below hb)
    clear hb
    have xBG0 := BG.out.cell (i := 0) rfl
    have xBG1 := BG.out.cell (i := 1) rfl
    have xBR0 := BR.out.cell (i := 0) rfl
    have xBR1 := BR.out.cell (i := 1) rfl
    have xBR2 := BR.out.cell (i := 2) rfl
    have xBR3 := BR.out.cell (i := 3) rfl
    have xBR4 := BR.out.cell (i := 4) rfl
    have xBR5 := BR.out.cell (i := 5) rfl
    have xBR6 := BR.out.cell (i := 6) rfl
    have xBR7 := BR.out.cell (i := 7) rfl
    go_wp2_with fail
    refine (C1.out _).mono ?_
    rintro e v2 ⟨rfl, hb⟩
    clear xBG0 xBG1 xBR0 xBR1 xBR2 xBR3 xBR4 xBR5 xBR6 xBR7
    replace H := Lib.hid (g_chain H.out hb)
    replace BG := Lib.hid (BG.out.below hb)
    replace BR := Lib.hid (BR.out.below hb)
    clear hb
    have xBG0 := BG.out.cell (i := 0) rfl
    have xBG1 := BG.out.cell (i := 1) rfl
    have xBR0 := BR.out.cell (i := 0) rfl
    have xBR1 := BR.out.cell (i := 1) rfl
    have xBR2 := BR.out.cell (i := 2) rfl
    have xBR3 := BR.out.cell (i := 3) rfl
    have xBR4 := BR.out.cell (i := 4) rfl
    have xBR5 := BR.out.cell (i := 5) rfl
    have xBR6 := BR.out.cell (i := 6) rfl
    have xBR7 := BR.out.cell (i := 7) rfl
    go_wp2_with fail
    refine (C6.out _ H.out).mono ?_
    rintro e v3 ⟨rfl, rfl⟩
    clear xBG0 xBG1 xBR0 xBR1 xBR2 xBR3 xBR4 xBR5 xBR6 xBR7
    have xBG0 := BG.out.cell (i := 0) rfl
    have xBG1 := BG.out.cell (i := 1) rfl
    have xBR0 := BR.out.cell (i := 0) rfl
    have xBR1 := BR.out.cell (i := 1) rfl
    have xBR2 := BR.out.cell (i := 2) rfl
    have xBR3 := BR.out.cell (i := 3) rfl
    have xBR4 := BR.out.cell (i := 4) rfl
    have xBR5 := BR.out.cell (i := 5) rfl
    have xBR6 := BR.out.cell (i := 6) rfl
    have xBR7 := BR.out.cell (i := 7) rfl
    go_wp2_with fail
    refine (C7.out _ H.out).mono ?_
    rintro e v4 ⟨rfl, rfl⟩
    clear xBG0 xBG1 xBR0 xBR1 xBR2 xBR3 xBR4 xBR5 xBR6 xBR7
    have xBG0 := BG.out.cell (i := 0) rfl
    have xBG1 := BG.out.cell (i := 1) rfl
    have xBR0 := BR.out.cell (i := 0) rfl
    have xBR1 := BR.out.cell (i := 1) rfl
    have xBR2 := BR.out.cell (i := 2) rfl
    have xBR3 := BR.out.cell (i := 3) rfl
    have xBR4 := BR.out.cell (i := 4) rfl
    have xBR5 := BR.out.cell (i := 5) rfl
    have xBR6 := BR.out.cell (i := 6) rfl
    have xBR7 := BR.out.cell (i := 7) rfl
    go_upto_region 3 with fail
    clear xBG0 xBG1 xBR0 xBR1 xBR2 xBR3 xBR4 xBR5 xBR6 xBR7
    refine wp_region_any (by kernel_rfl) ?_
    change wpAny _ _ _ _ _ _ _ (World.drew _)
    replace H : Hid (Below w.heap.size w (World.drew _)) := Lib.hid H.out.drew
    replace BG := Lib.hid BG.out.drew
    replace BR := Lib.hid BR.out.drew
    generalize World.drew _ = wd at H BG BR ⊢
    refine wpAny_of_held (S := fun W => W.cell? ⟨w.heap.size, 0, none⟩ = some (.int .i64 (n : Int)) ∧ W.cell? ⟨w.heap.size, 1, none⟩ = some (.slice AG m cG) ∧ W.cell? ⟨w.heap.size + 1, 0, none⟩ = some (.int .i64 p) ∧ W.cell? ⟨w.heap.size + 1, 1, none⟩ = some (.int .i64 s) ∧ W.cell? ⟨w.heap.size + 1, 2, none⟩ = some (.int .i64 it) ∧ W.cell? ⟨w.heap.size + 1, 3, none⟩ = some (.bool dn) ∧ W.cell? ⟨w.heap.size + 1, 4, none⟩ = some (.slice A n c) ∧ W.cell? ⟨w.heap.size + 1, 5, none⟩ = some (.slice B m d) ∧ W.cell? ⟨w.heap.size + 1, 6, none⟩ = some (.int .i64 nn) ∧ W.cell? ⟨w.heap.size + 1, 7, none⟩ = some (.slice C j k)) _ _ _ _ ?_
    refine held_nameS ⟨BG.out.cell (i := 0) rfl, BG.out.cell (i := 1) rfl, BR.out.cell (i := 0) rfl, BR.out.cell (i := 1) rfl, BR.out.cell (i := 2) rfl, BR.out.cell (i := 3) rfl, BR.out.cell (i := 4) rfl, BR.out.cell (i := 5) rfl, BR.out.cell (i := 6) rfl, BR.out.cell (i := 7) rfl⟩ (fun hS => ?_)
    refine wpAnyH_take (i := 0) (oi := ⟨_, _, _, _, _, _⟩) (v := .pointer (some ⟨w.heap.size + 1, 6, none⟩)) rfl (by kernel_rfl) (by kernel_rfl) (by kernel_rfl) (fun _ _ _ h => h) (Or.inl ⟨by kernel_rfl, fun W hS => by (obtain ⟨s0, s1, s2, s3, s4, s5, s6, s7, s8, s9⟩ := hS); go_simp⟩) hS ?_
    (try simp only [Act.put, List.setIfInBounds_toArray, List.set_cons_zero, List.set_cons_succ])
    refine wpAnyH_take (i := 1) (oi := ⟨_, _, _, _, _, _⟩) (v := .agg #[.int .i64 nn, .slice C j k]) rfl (by kernel_rfl) (by kernel_rfl) (by kernel_rfl) (fun _ _ _ h => h) (Or.inl ⟨by kernel_rfl, fun W hS => by (obtain ⟨s0, s1, s2, s3, s4, s5, s6, s7, s8, s9⟩ := hS); go_simp⟩) hS ?_
    (try simp only [Act.put, List.setIfInBounds_toArray, List.set_cons_zero, List.set_cons_succ])
    refine wpAnyH_ready (rs := [2]) (by kernel_rfl) (by simp) (AllReadyH.cons rfl (fun K hK => ?_) AllReadyH.nil)
    go_simp
    go_at_call 24
    refine (C8.out _ H.out).mono ?_
    rintro e v8 ⟨rfl, hb⟩
    replace H := Lib.hid (g_chain H.out hb)
    replace BG := Lib.hid (BG.out.below hb)
    replace BR := Lib.hid (BR.out.below hb)
    clear hb
    dsimp only
    refine hK.out _ _ ⟨BG.out.cell (i := 0) rfl, BG.out.cell (i := 1) rfl, BR.out.cell (i := 0) rfl, BR.out.cell (i := 1) rfl, BR.out.cell (i := 2) rfl, BR.out.cell (i := 3) rfl, BR.out.cell (i := 4) rfl, BR.out.cell (i := 5) rfl, BR.out.cell (i := 6) rfl, BR.out.cell (i := 7) rfl⟩ (fun hS => ?_)
    clear hK K
    (try simp only [Act.put, List.setIfInBounds_toArray, List.set_cons_zero, List.set_cons_succ])
    refine wpAnyH_take (i := 3) (oi := ⟨_, _, _, _, _, _⟩) (v := .bool true) rfl (by kernel_rfl) (by kernel_rfl) (by kernel_rfl) (fun _ _ _ h => h) (Or.inl ⟨by kernel_rfl, fun W hS => by (obtain ⟨s0, s1, s2, s3, s4, s5, s6, s7, s8, s9⟩ := hS); go_simp⟩) hS ?_
    (try simp only [Act.put, List.setIfInBounds_toArray, List.set_cons_zero, List.set_cons_succ])
    refine wpAnyH_take (i := 4) (oi := ⟨_, _, _, _, _, _⟩) (v := .pointer (some ⟨w.heap.size + 1, 6, none⟩)) rfl (by kernel_rfl) (by kernel_rfl) (by kernel_rfl) (fun _ _ _ h => h) (Or.inl ⟨by kernel_rfl, fun W hS => by (obtain ⟨s0, s1, s2, s3, s4, s5, s6, s7, s8, s9⟩ := hS); go_simp⟩) hS ?_
    (try simp only [Act.put, List.setIfInBounds_toArray, List.set_cons_zero, List.set_cons_succ])
    refine wpAnyH_take (i := 5) (oi := ⟨_, _, _, _, _, _⟩) (v := .pointer (some ⟨w.heap.size + 1, 6, none⟩)) rfl (by kernel_rfl) (by kernel_rfl) (by kernel_rfl) (fun _ _ _ h => h) (Or.inl ⟨by kernel_rfl, fun W hS => by (obtain ⟨s0, s1, s2, s3, s4, s5, s6, s7, s8, s9⟩ := hS); go_simp⟩) hS ?_
    (try simp only [Act.put, List.setIfInBounds_toArray, List.set_cons_zero, List.set_cons_succ])
    refine wpAnyH_take (i := 6) (oi := ⟨_, _, _, _, _, _⟩) (v := .int .i64 nn) rfl (by kernel_rfl) (by kernel_rfl) (by kernel_rfl) (fun _ _ _ h => h) (Or.inl ⟨by kernel_rfl, fun W hS => by (obtain ⟨s0, s1, s2, s3, s4, s5, s6, s7, s8, s9⟩ := hS); go_simp⟩) hS ?_
    (try simp only [Act.put, List.setIfInBounds_toArray, List.set_cons_zero, List.set_cons_succ])
    refine wpAnyH_take (i := 7) (oi := ⟨_, _, _, _, _, _⟩) (v := .pointer (some ⟨w.heap.size, 0, none⟩)) rfl (by kernel_rfl) (by kernel_rfl) (by kernel_rfl) (fun _ _ _ h => h) (Or.inl ⟨by kernel_rfl, fun W hS => by (obtain ⟨s0, s1, s2, s3, s4, s5, s6, s7, s8, s9⟩ := hS); go_simp⟩) hS ?_
    (try simp only [Act.put, List.setIfInBounds_toArray, List.set_cons_zero, List.set_cons_succ])
    refine wpAnyH_take (i := 8) (oi := ⟨_, _, _, _, _, _⟩) (v := .int .i64 (n : Int)) rfl (by kernel_rfl) (by kernel_rfl) (by kernel_rfl) (fun _ _ _ h => h) (Or.inl ⟨by kernel_rfl, fun W hS => by (obtain ⟨s0, s1, s2, s3, s4, s5, s6, s7, s8, s9⟩ := hS); go_simp⟩) hS ?_
    (try simp only [Act.put, List.setIfInBounds_toArray, List.set_cons_zero, List.set_cons_succ])
    refine wpAnyH_take (i := 9) (oi := ⟨_, _, _, _, _, _⟩) (v := .bool false) rfl (by kernel_rfl) (by kernel_rfl) (by kernel_rfl) (fun _ _ _ h => h) (Or.inl ⟨by kernel_rfl, fun W hS => by (obtain ⟨s0, s1, s2, s3, s4, s5, s6, s7, s8, s9⟩ := hS); go_simp⟩) hS ?_
    (try simp only [Act.put, List.setIfInBounds_toArray, List.set_cons_zero, List.set_cons_succ])
    refine wpAnyH_take (i := 10) (oi := ⟨_, _, _, _, _, _⟩) (v := .bool false) rfl (by kernel_rfl) (by kernel_rfl) (by kernel_rfl) (fun _ _ _ h => h) (Or.inl ⟨by kernel_rfl, fun W hS => by (obtain ⟨s0, s1, s2, s3, s4, s5, s6, s7, s8, s9⟩ := hS); go_simp⟩) hS ?_
    (try simp only [Act.put, List.setIfInBounds_toArray, List.set_cons_zero, List.set_cons_succ])
    refine wpAnyH_take (i := 11) (oi := ⟨_, _, _, _, _, _⟩) (v := .bool false) rfl (by kernel_rfl) (by kernel_rfl) (by kernel_rfl) (fun _ _ _ h => h) (Or.inl ⟨by kernel_rfl, fun W hS => by (obtain ⟨s0, s1, s2, s3, s4, s5, s6, s7, s8, s9⟩ := hS); go_simp⟩) hS ?_
    (try simp only [Act.put, List.setIfInBounds_toArray, List.set_cons_zero, List.set_cons_succ])
    refine wpAnyH_take (i := 12) (oi := ⟨_, _, _, _, _, _⟩) (v := undef) rfl (by kernel_rfl) (by kernel_rfl) (by kernel_rfl) (fun _ _ _ h => h) (Or.inr ⟨by kernel_rfl, rfl⟩) hS ?_
    (try simp only [Act.put, List.setIfInBounds_toArray, List.set_cons_zero, List.set_cons_succ])
    refine wpAnyH_take (i := 13) (oi := ⟨_, _, _, _, _, _⟩) (v := undef) rfl (by kernel_rfl) (by kernel_rfl) (by kernel_rfl) (fun _ _ _ h => h) (Or.inr ⟨by kernel_rfl, rfl⟩) hS ?_
    (try simp only [Act.put, List.setIfInBounds_toArray, List.set_cons_zero, List.set_cons_succ])
    refine wpAnyH_take (i := 14) (oi := ⟨_, _, _, _, _, _⟩) (v := undef) rfl (by kernel_rfl) (by kernel_rfl) (by kernel_rfl) (fun _ _ _ h => h) (Or.inr ⟨by kernel_rfl, rfl⟩) hS ?_
    (try simp only [Act.put, List.setIfInBounds_toArray, List.set_cons_zero, List.set_cons_succ])
    refine wpAnyH_take (i := 15) (oi := ⟨_, _, _, _, _, _⟩) (v := undef) rfl (by kernel_rfl) (by kernel_rfl) (by kernel_rfl) (fun _ _ _ h => h) (Or.inr ⟨by kernel_rfl, rfl⟩) hS ?_
    (try simp only [Act.put, List.setIfInBounds_toArray, List.set_cons_zero, List.set_cons_succ])
    refine wpAnyH_take (i := 16) (oi := ⟨_, _, _, _, _, _⟩) (v := undef) rfl (by kernel_rfl) (by kernel_rfl) (by kernel_rfl) (fun _ _ _ h => h) (Or.inr ⟨by kernel_rfl, rfl⟩) hS ?_
    (try simp only [Act.put, List.setIfInBounds_toArray, List.set_cons_zero, List.set_cons_succ])
    refine wpAnyH_take (i := 17) (oi := ⟨_, _, _, _, _, _⟩) (v := undef) rfl (by kernel_rfl) (by kernel_rfl) (by kernel_rfl) (fun _ _ _ h => h) (Or.inr ⟨by kernel_rfl, rfl⟩) hS ?_
    (try simp only [Act.put, List.setIfInBounds_toArray, List.set_cons_zero, List.set_cons_succ])
    refine wpAnyH_take (i := 18) (oi := ⟨_, _, _, _, _, _⟩) (v := undef) rfl (by kernel_rfl) (by kernel_rfl) (by kernel_rfl) (fun _ _ _ h => h) (Or.inr ⟨by kernel_rfl, rfl⟩) hS ?_
    (try simp only [Act.put, List.setIfInBounds_toArray, List.set_cons_zero, List.set_cons_succ])
    refine wpAnyH_take (i := 19) (oi := ⟨_, _, _, _, _, _⟩) (v := undef) rfl (by kernel_rfl) (by kernel_rfl) (by kernel_rfl) (fun _ _ _ h => h) (Or.inr ⟨by kernel_rfl, rfl⟩) hS ?_
    (try simp only [Act.put, List.setIfInBounds_toArray, List.set_cons_zero, List.set_cons_succ])
    refine wpAnyH_take (i := 20) (oi := ⟨_, _, _, _, _, _⟩) (v := .bool false) rfl (by kernel_rfl) (by kernel_rfl) (by kernel_rfl) (fun _ _ _ h => h) (Or.inl ⟨by kernel_rfl, fun W hS => by (obtain ⟨s0, s1, s2, s3, s4, s5, s6, s7, s8, s9⟩ := hS); go_simp⟩) hS ?_
    (try simp only [Act.put, List.setIfInBounds_toArray, List.set_cons_zero, List.set_cons_succ])
    refine wpAnyH_take (i := 21) (oi := ⟨_, _, _, _, _, _⟩) (v := .bool false) rfl (by kernel_rfl) (by kernel_rfl) (by kernel_rfl) (fun _ _ _ h => h) (Or.inl ⟨by kernel_rfl, fun W hS => by (obtain ⟨s0, s1, s2, s3, s4, s5, s6, s7, s8, s9⟩ := hS); go_simp⟩) hS ?_
    (try simp only [Act.put, List.setIfInBounds_toArray, List.set_cons_zero, List.set_cons_succ])
    refine wpAnyH_done (by kernel_rfl) ?_ _
    go_wp2
    go_ret
    exact ⟨rfl, H.out⟩
  have hz : decide (nn = (n : Int)) = true := by simp [h9]
  rw [hz, Bool.true_and]
  clear hz
  subst h9
  have hz9 : (((rs.length : Nat) : Int) == 0) = decide (rs.length = 0) := by rw [Bool.eq_iff_iff]; simp
  go_enter Tryz.func23, Tryz.ntmps23
  have xBG0 := BG.out.cell (i := 0) rfl
  have xBG1 := BG.out.cell (i := 1) rfl
  have xBR0 := BR.out.cell (i := 0) rfl
  have xBR1 := BR.out.cell (i := 1) rfl
  have xBR2 := BR.out.cell (i := 2) rfl
  have xBR3 := BR.out.cell (i := 3) rfl
  have xBR4 := BR.out.cell (i := 4) rfl
  have xBR5 := BR.out.cell (i := 5) rfl
  have xBR6 := BR.out.cell (i := 6) rfl
  have xBR7 := BR.out.cell (i := 7) rfl
  go_wp2_with fail
  refine (C0.out _ H.out).mono ?_
  rintro e v1 ⟨rfl, hb⟩
  clear xBG0 xBG1 xBR0 xBR1 xBR2 xBR3 xBR4 xBR5 xBR6 xBR7
  replace H := Lib.hid (g_chain H.out hb)
  replace BG := Lib.hid (BG.out.below hb)
  replace BR := Lib.hid (BR.out.below hb)
  clear hb
  have xBG0 := BG.out.cell (i := 0) rfl
  have xBG1 := BG.out.cell (i := 1) rfl
  have xBR0 := BR.out.cell (i := 0) rfl
  have xBR1 := BR.out.cell (i := 1) rfl
  have xBR2 := BR.out.cell (i := 2) rfl
  have xBR3 := BR.out.cell (i := 3) rfl
  have xBR4 := BR.out.cell (i := 4) rfl
  have xBR5 := BR.out.cell (i := 5) rfl
  have xBR6 := BR.out.cell (i := 6) rfl
  have xBR7 := BR.out.cell (i := 7) rfl
  go_wp2_with fail
  refine (C1.out _).mono ?_
  rintro e v2 ⟨rfl, hb⟩
  clear xBG0 xBG1 xBR0 xBR1 xBR2 xBR3 xBR4 xBR5 xBR6 xBR7
  replace H := Lib.hid (g_chain H.out hb)
  replace BG := Lib.hid (BG.out.below hb)
  replace BR := Lib.hid (BR.out.below hb)
  clear hb
  have xBG0 := BG.out.cell (i := 0) rfl
  have xBG1 := BG.out.cell (i := 1) rfl
  have xBR0 := BR.out.cell (i := 0) rfl
  have xBR1 := BR.out.cell (i := 1) rfl
  have xBR2 := BR.out.cell (i := 2) rfl
  have xBR3 := BR.out.cell (i := 3) rfl
  have xBR4 := BR.out.cell (i := 4) rfl
  have xBR5 := BR.out.cell (i := 5) rfl
  have xBR6 := BR.out.cell (i := 6) rfl
  have xBR7 := BR.out.cell (i := 7) rfl
  go_wp2_with fail
  refine (C6.out _ H.out).mono ?_
  rintro e v3 ⟨rfl, rfl⟩
  clear xBG0 xBG1 xBR0 xBR1 xBR2 xBR3 xBR4 xBR5 xBR6 xBR7
  have xBG0 := BG.out.cell (i := 0) rfl
  have xBG1 := BG.out.cell (i := 1) rfl
  have xBR0 := BR.out.cell (i := 0) rfl
  have xBR1 := BR.out.cell (i := 1) rfl
  have xBR2 := BR.out.cell (i := 2) rfl
  have xBR3 := BR.out.cell (i := 3) rfl
  have xBR4 := BR.out.cell (i := 4) rfl
  have xBR5 := BR.out.cell (i := 5) rfl
  have xBR6 := BR.out.cell (i := 6) rfl
  have xBR7 := BR.out.cell (i := 7) rfl
  go_wp2_with fail
  refine (C7.out _ H.out).mono ?_
  rintro e v4 ⟨rfl, rfl⟩
  clear xBG0 xBG1 xBR0 xBR1 xBR2 xBR3 xBR4 xBR5 xBR6 xBR7
  have xBG0 := BG.out.cell (i := 0) rfl
  have xBG1 := BG.out.cell (i := 1) rfl
  have xBR0 := BR.out.cell (i := 0) rfl
  have xBR1 := BR.out.cell (i := 1) rfl
  have xBR2 := BR.out.cell (i := 2) rfl
  have xBR3 := BR.out.cell (i := 3) rfl
  have xBR4 := BR.out.cell (i := 4) rfl
  have xBR5 := BR.out.cell (i := 5) rfl
  have xBR6 := BR.out.cell (i := 6) rfl
  have xBR7 := BR.out.cell (i := 7) rfl
  go_upto_region 3 with fail
  clear xBG0 xBG1 xBR0 xBR1 xBR2 xBR3 xBR4 xBR5 xBR6 xBR7
  refine wp_region_any (by kernel_rfl) ?_
  change wpAny _ _ _ _ _ _ _ (World.drew _)
  replace H : Hid (Below w.heap.size w (World.drew _)) := Lib.hid H.out.drew
  replace BG := Lib.hid BG.out.drew
  replace BR := Lib.hid BR.out.drew
  generalize World.drew _ = wd at H BG BR ⊢
  refine wpAny_of_held (S := fun W => W.cell? ⟨w.heap.size, 0, none⟩ = some (.int .i64 (n : Int)) ∧ W.cell? ⟨w.heap.size, 1, none⟩ = some (.slice AG m cG) ∧ W.cell? ⟨w.heap.size + 1, 0, none⟩ = some (.int .i64 p) ∧ W.cell? ⟨w.heap.size + 1, 1, none⟩ = some (.int .i64 s) ∧ W.cell? ⟨w.heap.size + 1, 2, none⟩ = some (.int .i64 it) ∧ W.cell? ⟨w.heap.size + 1, 3, none⟩ = some (.bool dn) ∧ W.cell? ⟨w.heap.size + 1, 4, none⟩ = some (.slice A n c) ∧ W.cell? ⟨w.heap.size + 1, 5, none⟩ = some (.slice B m d) ∧ W.cell? ⟨w.heap.size + 1, 6, none⟩ = some (.int .i64 (n : Int)) ∧ W.cell? ⟨w.heap.size + 1, 7, none⟩ = some (.slice C j k)) _ _ _ _ ?_
  refine held_nameS ⟨BG.out.cell (i := 0) rfl, BG.out.cell (i := 1) rfl, BR.out.cell (i := 0) rfl, BR.out.cell (i := 1) rfl, BR.out.cell (i := 2) rfl, BR.out.cell (i := 3) rfl, BR.out.cell (i := 4) rfl, BR.out.cell (i := 5) rfl, BR.out.cell (i := 6) rfl, BR.out.cell (i := 7) rfl⟩ (fun hS => ?_)
  refine wpAnyH_take (i := 0) (oi := ⟨_, _, _, _, _, _⟩) (v := .pointer (some ⟨w.heap.size + 1, 6, none⟩)) rfl (by kernel_rfl) (by kernel_rfl) (by kernel_rfl) (fun _ _ _ h => h) (Or.inl ⟨by kernel_rfl, fun W hS => by (obtain ⟨s0, s1, s2, s3, s4, s5, s6, s7, s8, s9⟩ := hS); go_simp⟩) hS ?_
  (try simp only [Act.put, List.setIfInBounds_toArray, List.set_cons_zero, List.set_cons_succ])
  refine wpAnyH_take (i := 1) (oi := ⟨_, _, _, _, _, _⟩) (v := .agg #[.int .i64 (n : Int), .slice C j k]) rfl (by kernel_rfl) (by kernel_rfl) (by kernel_rfl) (fun _ _ _ h => h) (Or.inl ⟨by kernel_rfl, fun W hS => by (obtain ⟨s0, s1, s2, s3, s4, s5, s6, s7, s8, s9⟩ := hS); go_simp⟩) hS ?_
  (try simp only [Act.put, List.setIfInBounds_toArray, List.set_cons_zero, List.set_cons_succ])
  refine wpAnyH_ready (rs := [2]) (by kernel_rfl) (by simp) (AllReadyH.cons rfl (fun K hK => ?_) AllReadyH.nil)
  go_simp
  go_at_call 24
  refine (C8.out _ H.out).mono ?_
  rintro e v8 ⟨rfl, hb⟩
  replace H := Lib.hid (g_chain H.out hb)
  replace BG := Lib.hid (BG.out.below hb)
  replace BR := Lib.hid (BR.out.below hb)
  clear hb
  dsimp only
  refine hK.out _ _ ⟨BG.out.cell (i := 0) rfl, BG.out.cell (i := 1) rfl, BR.out.cell (i := 0) rfl, BR.out.cell (i := 1) rfl, BR.out.cell (i := 2) rfl, BR.out.cell (i := 3) rfl, BR.out.cell (i := 4) rfl, BR.out.cell (i := 5) rfl, BR.out.cell (i := 6) rfl, BR.out.cell (i := 7) rfl⟩ (fun hS => ?_)
  clear hK K
  (try simp only [Act.put, List.setIfInBounds_toArray, List.set_cons_zero, List.set_cons_succ])
  refine wpAnyH_take (i := 3) (oi := ⟨_, _, _, _, _, _⟩) (v := .bool true) rfl (by kernel_rfl) (by kernel_rfl) (by kernel_rfl) (fun _ _ _ h => h) (Or.inl ⟨by kernel_rfl, fun W hS => by (obtain ⟨s0, s1, s2, s3, s4, s5, s6, s7, s8, s9⟩ := hS); go_simp⟩) hS ?_
  (try simp only [Act.put, List.setIfInBounds_toArray, List.set_cons_zero, List.set_cons_succ])
  refine wpAnyH_take (i := 4) (oi := ⟨_, _, _, _, _, _⟩) (v := .pointer (some ⟨w.heap.size + 1, 6, none⟩)) rfl (by kernel_rfl) (by kernel_rfl) (by kernel_rfl) (fun _ _ _ h => h) (Or.inl ⟨by kernel_rfl, fun W hS => by (obtain ⟨s0, s1, s2, s3, s4, s5, s6, s7, s8, s9⟩ := hS); go_simp⟩) hS ?_
  (try simp only [Act.put, List.setIfInBounds_toArray, List.set_cons_zero, List.set_cons_succ])
  refine wpAnyH_take (i := 5) (oi := ⟨_, _, _, _, _, _⟩) (v := .pointer (some ⟨w.heap.size + 1, 6, none⟩)) rfl (by kernel_rfl) (by kernel_rfl) (by kernel_rfl) (fun _ _ _ h => h) (Or.inl ⟨by kernel_rfl, fun W hS => by (obtain ⟨s0, s1, s2, s3, s4, s5, s6, s7, s8, s9⟩ := hS); go_simp⟩) hS ?_
  (try simp only [Act.put, List.setIfInBounds_toArray, List.set_cons_zero, List.set_cons_succ])
  refine wpAnyH_take (i := 6) (oi := ⟨_, _, _, _, _, _⟩) (v := .int .i64 (n : Int)) rfl (by kernel_rfl) (by kernel_rfl) (by kernel_rfl) (fun _ _ _ h => h) (Or.inl ⟨by kernel_rfl, fun W hS => by (obtain ⟨s0, s1, s2, s3, s4, s5, s6, s7, s8, s9⟩ := hS); go_simp⟩) hS ?_
  (try simp only [Act.put, List.setIfInBounds_toArray, List.set_cons_zero, List.set_cons_succ])
  refine wpAnyH_take (i := 7) (oi := ⟨_, _, _, _, _, _⟩) (v := .pointer (some ⟨w.heap.size, 0, none⟩)) rfl (by kernel_rfl) (by kernel_rfl) (by kernel_rfl) (fun _ _ _ h => h) (Or.inl ⟨by kernel_rfl, fun W hS => by (obtain ⟨s0, s1, s2, s3, s4, s5, s6, s7, s8, s9⟩ := hS); go_simp⟩) hS ?_
  (try simp only [Act.put, List.setIfInBounds_toArray, List.set_cons_zero, List.set_cons_succ])
  refine wpAnyH_take (i := 8) (oi := ⟨_, _, _, _, _, _⟩) (v := .int .i64 (n : Int)) rfl (by kernel_rfl) (by kernel_rfl) (by kernel_rfl) (fun _ _ _ h => h) (Or.inl ⟨by kernel_rfl, fun W hS => by (obtain ⟨s0, s1, s2, s3, s4, s5, s6, s7, s8, s9⟩ := hS); go_simp⟩) hS ?_
  (try simp only [Act.put, List.setIfInBounds_toArray, List.set_cons_zero, List.set_cons_succ])
  refine wpAnyH_take (i := 9) (oi := ⟨_, _, _, _, _, _⟩) (v := .bool true) rfl (by kernel_rfl) (by kernel_rfl) (by kernel_rfl) (fun _ _ _ h => h) (Or.inl ⟨by kernel_rfl, fun W hS => by (obtain ⟨s0, s1, s2, s3, s4, s5, s6, s7, s8, s9⟩ := hS); go_simp⟩) hS ?_
  (try simp only [Act.put, List.setIfInBounds_toArray, List.set_cons_zero, List.set_cons_succ])
  refine wpAnyH_take (i := 10) (oi := ⟨_, _, _, _, _, _⟩) (v := .bool true) rfl (by kernel_rfl) (by kernel_rfl) (by kernel_rfl) (fun _ _ _ h => h) (Or.inl ⟨by kernel_rfl, fun W hS => by (obtain ⟨s0, s1, s2, s3, s4, s5, s6, s7, s8, s9⟩ := hS); go_simp⟩) hS ?_
  (try simp only [Act.put, List.setIfInBounds_toArray, List.set_cons_zero, List.set_cons_succ])
  refine wpAnyH_take (i := 11) (oi := ⟨_, _, _, _, _, _⟩) (v := .bool true) rfl (by kernel_rfl) (by kernel_rfl) (by kernel_rfl) (fun _ _ _ h => h) (Or.inl ⟨by kernel_rfl, fun W hS => by (obtain ⟨s0, s1, s2, s3, s4, s5, s6, s7, s8, s9⟩ := hS); go_simp⟩) hS ?_
  (try simp only [Act.put, List.setIfInBounds_toArray, List.set_cons_zero, List.set_cons_succ])
  refine wpAnyH_take (i := 12) (oi := ⟨_, _, _, _, _, _⟩) (v := .pointer (some ⟨w.heap.size + 1, 3, none⟩)) rfl (by kernel_rfl) (by kernel_rfl) (by kernel_rfl) (fun _ _ _ h => h) (Or.inl ⟨by kernel_rfl, fun W hS => by (obtain ⟨s0, s1, s2, s3, s4, s5, s6, s7, s8, s9⟩ := hS); go_simp⟩) hS ?_
  (try simp only [Act.put, List.setIfInBounds_toArray, List.set_cons_zero, List.set_cons_succ])
  refine wpAnyH_take (i := 13) (oi := ⟨_, _, _, _, _, _⟩) (v := .bool dn) rfl (by kernel_rfl) (by kernel_rfl) (by kernel_rfl) (fun _ _ _ h => h) (Or.inl ⟨by kernel_rfl, fun W hS => by (obtain ⟨s0, s1, s2, s3, s4, s5, s6, s7, s8, s9⟩ := hS); go_simp⟩) hS ?_
  (try simp only [Act.put, List.setIfInBounds_toArray, List.set_cons_zero, List.set_cons_succ])
  refine wpAnyH_take (i := 14) (oi := ⟨_, _, _, _, _, _⟩) (v := .pointer (some ⟨w.heap.size + 1, 6, none⟩)) rfl (by kernel_rfl) (by kernel_rfl) (by kernel_rfl) (fun _ _ _ h => h) (Or.inl ⟨by kernel_rfl, fun W hS => by (obtain ⟨s0, s1, s2, s3, s4, s5, s6, s7, s8, s9⟩ := hS); go_simp⟩) hS ?_
  (try simp only [Act.put, List.setIfInBounds_toArray, List.set_cons_zero, List.set_cons_succ])
  refine wpAnyH_take (i := 15) (oi := ⟨_, _, _, _, _, _⟩) (v := .agg #[.int .i64 (n : Int), .slice C j k]) rfl (by kernel_rfl) (by kernel_rfl) (by kernel_rfl) (fun _ _ _ h => h) (Or.inl ⟨by kernel_rfl, fun W hS => by (obtain ⟨s0, s1, s2, s3, s4, s5, s6, s7, s8, s9⟩ := hS); go_simp⟩) hS ?_
  (try simp only [Act.put, List.setIfInBounds_toArray, List.set_cons_zero, List.set_cons_succ])
  refine wpAnyH_ready (rs := [16]) (by kernel_rfl) (by simp) (AllReadyH.cons rfl (fun K hK => ?_) AllReadyH.nil)
  go_simp
  go_at_call 50
  refine (C9.out _ H.out).mono ?_
  rintro e v9 ⟨Am, cm, rfl, -, hb⟩
  replace H := Lib.hid (g_chain H.out hb)
  replace BG := Lib.hid (BG.out.below hb)
  replace BR := Lib.hid (BR.out.below hb)
  clear hb
  dsimp only
  refine hK.out _ _ ⟨BG.out.cell (i := 0) rfl, BG.out.cell (i := 1) rfl, BR.out.cell (i := 0) rfl, BR.out.cell (i := 1) rfl, BR.out.cell (i := 2) rfl, BR.out.cell (i := 3) rfl, BR.out.cell (i := 4) rfl, BR.out.cell (i := 5) rfl, BR.out.cell (i := 6) rfl, BR.out.cell (i := 7) rfl⟩ (fun hS => ?_)
  clear hK K
  (try simp only [Act.put, List.setIfInBounds_toArray, List.set_cons_zero, List.set_cons_succ])
  refine wpAnyH_take (i := 17) (oi := ⟨_, _, _, _, _, _⟩) (v := .int .i64 ((rs.length : Nat) : Int)) rfl (by kernel_rfl) (by kernel_rfl) (by kernel_rfl) (fun _ _ _ h => h) (Or.inl ⟨by kernel_rfl, fun W hS => by (obtain ⟨s0, s1, s2, s3, s4, s5, s6, s7, s8, s9⟩ := hS); go_simp⟩) hS ?_
  (try simp only [Act.put, List.setIfInBounds_toArray, List.set_cons_zero, List.set_cons_succ])
  refine wpAnyH_take (i := 18) (oi := ⟨_, _, _, _, _, _⟩) (v := .bool (decide (rs.length = 0))) rfl (by kernel_rfl) (by kernel_rfl) (by kernel_rfl) (fun _ _ _ h => h) (Or.inl ⟨by kernel_rfl, fun W hS => by (obtain ⟨s0, s1, s2, s3, s4, s5, s6, s7, s8, s9⟩ := hS); go_simp⟩) hS ?_
  (try simp only [Act.put, List.setIfInBounds_toArray, List.set_cons_zero, List.set_cons_succ])
  refine wpAnyH_take (i := 19) (oi := ⟨_, _, _, _, _, _⟩) (v := .bool (dn == decide (rs.length = 0))) rfl (by kernel_rfl) (by kernel_rfl) (by kernel_rfl) (fun _ _ _ h => h) (Or.inl ⟨by kernel_rfl, fun W hS => by (obtain ⟨s0, s1, s2, s3, s4, s5, s6, s7, s8, s9⟩ := hS); go_simp⟩) hS ?_
  (try simp only [Act.put, List.setIfInBounds_toArray, List.set_cons_zero, List.set_cons_succ])
  refine wpAnyH_take (i := 20) (oi := ⟨_, _, _, _, _, _⟩) (v := .bool (dn == decide (rs.length = 0))) rfl (by kernel_rfl) (by kernel_rfl) (by kernel_rfl) (fun _ _ _ h => h) (Or.inl ⟨by kernel_rfl, fun W hS => by (obtain ⟨s0, s1, s2, s3, s4, s5, s6, s7, s8, s9⟩ := hS); go_simp⟩) hS ?_
  (try simp only [Act.put, List.setIfInBounds_toArray, List.set_cons_zero, List.set_cons_succ])
  refine wpAnyH_take (i := 21) (oi := ⟨_, _, _, _, _, _⟩) (v := .bool (dn == decide (rs.length = 0))) rfl (by kernel_rfl) (by kernel_rfl) (by kernel_rfl) (fun _ _ _ h => h) (Or.inl ⟨by kernel_rfl, fun W hS => by (obtain ⟨s0, s1, s2, s3, s4, s5, s6, s7, s8, s9⟩ := hS); go_simp⟩) hS ?_
  (try simp only [Act.put, List.setIfInBounds_toArray, List.set_cons_zero, List.set_cons_succ])
  refine wpAnyH_done (by kernel_rfl) ?_ _
  go_wp2
  go_ret
  exact ⟨rfl, H.out⟩
end Go.Proofs.YtpgnappddddlpaaGreatDoor
