/- Runs in memory, the program's small functions: values in a list, no member, a vertex of a graph, a set of a graph, a run that is over, the other end of an edge. Condition: at most 2^21 numbers or bytes. -/
import Derived.Test.YtlhcobkncceodaaGreatDoorKRunSt
import Derived.Test.YtlhcobkncceodaaGreatDoorKProgA
import Derived.Test.YtlhcobkncceodaaGreatDoorKSetHasI
import Derived.Test.YtlhcobkncceodaaGreatDoorKSetOkI
import Derived.Test.YtlhcobkncceodaaGreatDoorKLab
namespace Go.Proofs.YtlhcobkncceodaaGreatDoor
open Go.RowKit
set_option linter.unusedVariables false

theorem badValue (x : Int) (w : World) : Calls Tryz.prog 92 #[.int .i64 x] w fun e w' => e = .returned (.bool (!valB x)) ∧ w = w' := by
  have C := Lib.hid (fun W => implIsValue x W)
  generalize valB x = b at C ⊢
  go_enter Tryz.func92, Tryz.ntmps92
  go_wp2_with fail
  refine (C.out _).mono ?_
  rintro e w1 ⟨rfl, rfl⟩
  go_wp2
  go_ret
  exact ⟨rfl, rfl⟩
theorem vals_no {xs : List Int} {k : Nat} {x : Int} (h : xs[k]? = some x) (hx : valB x = false) : valsB xs = false := by
  unfold valsB
  rw [List.all_eq_false]
  exact ⟨x, List.mem_of_getElem? h, by simp [hx]⟩
theorem vals_step {xs : List Int} {k : Nat} {x : Int} (h : xs[k]? = some x) (ha : ∀ y ∈ xs.take k, valB y = true) (hx : valB x = true) : ∀ y ∈ xs.take (k + 1), valB y = true := by
  rw [g_take xs k x h]
  intro y hy
  rcases List.mem_append.1 hy with hy | hy
  · exact ha y hy
  · rw [List.mem_singleton.1 hy]; exact hx
theorem vals_yes {xs : List Int} (ha : ∀ y ∈ xs.take xs.length, valB y = true) : valsB xs = true := by
  rw [List.take_length] at ha
  unfold valsB
  rw [List.all_eq_true]
  exact ha
set_option maxRecDepth 10000 in
set_option maxHeartbeats 1000000 in
theorem indexBad (A : Option Addr) (n c : Nat) (xs : List Int) (w : World) (hr : SlI w A n xs) (hn : n ≤ 2097152) :
    Calls Tryz.prog 127 #[.slice A n c, .func (.func 92) #[] #[]] w fun e w' => ∃ z : Int, e = .returned (.int .i64 z) ∧ decide (0 ≤ z) = !valsB xs ∧ w = w' := by
  have HR := Lib.hid hr
  have HL := Lib.hid hr.len
  clear hr
  have CB := Lib.hid (fun x W => badValue x W)
  go_enter Tryz.func127, Tryz.ntmps127
  go_wp2
  go_loopw [8] (fun i wr => ∃ k : Nat, k ≤ n ∧ i = .int .i64 (k : Int) ∧ Hid (∀ y ∈ xs.take k, valB y = true) ∧ wr = w) (fun i _ => n - (intOf i).toNat)
  case atStart => exact ⟨0, Nat.zero_le _, rfl, Lib.hid (by simp), by first | rfl | trivial⟩
  case round =>
    obtain ⟨k, hk, rfl, hok, rfl⟩ := hrel
    by_cases hlt : k < n
    · obtain ⟨b, off, x, rfl, hbw, hx, c0⟩ := HR.out.at_ hlt
      have C := Lib.hid (fun W => CB.out x W)
      cases hv : valB x with
      | true =>
        rw [hv] at C
        have HK := Lib.hid (vals_step hx.out hok.out hv)
        clear hv hok
        go_wp2_with fail
        refine (C.out _).mono ?_
        rintro e w1 ⟨rfl, rfl⟩
        go_wp2
        go_roundw
        case rel => exact ⟨k + 1, by omega, by go_num, HK, by first | rfl | trivial⟩
        case measure => simp [intOf]; omega
      | false =>
        rw [hv] at C
        have HK := Lib.hid (vals_no hx.out hv)
        clear hv hok
        go_wp2_with fail
        refine (C.out _).mono ?_
        rintro e w1 ⟨rfl, rfl⟩
        go_wp2
        go_ret
        exact ⟨_, rfl, by rw [HK.out]; simp, rfl⟩
    · obtain rfl : k = n := by omega
      have HK := Lib.hid (vals_yes (xs := xs) (by rw [HL.out]; exact hok.out))
      go_wp2
      go_ret
      exact ⟨_, rfl, by rw [HK.out]; simp, rfl⟩
theorem containsBad (A : Option Addr) (n c : Nat) (xs : List Int) (w : World) (hr : SlI w A n xs) (hn : n ≤ 2097152) :
    Calls Tryz.prog 91 #[.slice A n c, .func (.func 92) #[] #[]] w fun e w' => e = .returned (.bool (!valsB xs)) ∧ w = w' := by
  have C := Lib.hid (indexBad A n c xs w hr hn)
  clear hr
  generalize valsB xs = b at C ⊢
  go_enter Tryz.func91, Tryz.ntmps91
  go_wp2_with fail
  refine C.out.mono ?_
  rintro e w1 ⟨z, rfl, hz, rfl⟩
  go_wp2
  go_ret
  exact ⟨rfl, rfl⟩
theorem areValues_any (A : Option Addr) (n c : Nat) (xs : List Int) (cnt : Int) (w : World) (hr : SlI w A n xs) (hn : n ≤ 2097152) :
    Calls Tryz.prog 51 #[.slice A n c, .int .i64 cnt] w fun e w' => e = .returned (.bool (decide ((n : Int) = cnt) && valsB xs)) ∧ w = w' := by
  have C := Lib.hid (containsBad A n c xs w hr hn)
  clear hr
  generalize valsB xs = b at C ⊢
  by_cases h : (n : Int) = cnt
  · subst h
    have hd : (decide ((n : Int) = (n : Int)) && b) = b := by simp
    rw [hd]
    clear hd
    have hb : (!!b) = b := by simp
    go_enter Tryz.func51, Tryz.ntmps51
    go_wp2_with fail
    refine C.out.mono ?_
    rintro e w1 ⟨rfl, rfl⟩
    go_wp2
    go_ret
    exact ⟨g_bool (by simp), rfl⟩
  · have hd : (decide ((n : Int) = cnt) && b) = false := by simp [h]
    rw [hd]
    clear hd C
    have hb : (decide ((n : Int) = cnt)) = false := by simp [h]
    go_enter Tryz.func51, Tryz.ntmps51
    go_wp2
    go_ret
    exact ⟨rfl, rfl⟩
theorem hasNone_any (N : Int) (A : Option Addr) (n c : Nat) (xs : List Nat) (w : World) (hw : Wts w) (hr : Rd w A n xs) (hn : n ≤ 2097152) :
    Calls Tryz.prog 53 #[.agg #[.int .i64 N, .slice A n c]] w (GTell w (decide ((memsB N xs).length = 0))) := by
  have C := Lib.hid (fun W (h : Below w.heap.size w W) => implMembers N A n c xs W (hw.below h) (hr.below h) hn)
  unfold MadeMs at C
  generalize memsB N xs = rs at C ⊢
  clear hr hw
  go_enter Tryz.func53, Tryz.ntmps53
  go_wp2_with fail
  refine (C.out _ (below_a1 _ _)).mono ?_
  rintro e w1 ⟨A1, c1, rfl, ho, hb⟩
  have H1 := Lib.hid (g_chain (below_a1 w (.cells #[.int .i64 N, .slice A n c] 30)) hb)
  clear ho hb
  go_wp2
  go_ret
  exact ⟨g_bool (by rw [Bool.eq_iff_iff]; simp), H1.out⟩
theorem hasVertex_any (N : Int) (A : Option Addr) (n c : Nat) (v : Int) (w : World) :
    Calls Tryz.prog 61 #[.agg #[.int .i64 N, .slice A n c], .int .i64 v] w (GTell w (decide (0 ≤ v ∧ v < N))) := by
  by_cases h0 : 0 ≤ v
  · by_cases h1 : v < N
    · have hd : decide (0 ≤ v ∧ v < N) = true := by simp [h0, h1]
      rw [hd]
      go_enter Tryz.func61, Tryz.ntmps61
      go_wp2
      go_ret
      exact ⟨rfl, below_a1 _ _⟩
    · have hd : decide (0 ≤ v ∧ v < N) = false := by simp [h1]
      rw [hd]
      have h2 : N ≤ v := by omega
      go_enter Tryz.func61, Tryz.ntmps61
      go_wp2
      go_ret
      exact ⟨rfl, below_a1 _ _⟩
  · have hd : decide (0 ≤ v ∧ v < N) = false := by simp [h0]
    rw [hd]
    have h2 : v < 0 := by omega
    go_enter Tryz.func61, Tryz.ntmps61
    go_wp2
    go_ret
    exact ⟨rfl, below_a1 _ _⟩
theorem isSetOf_any (N : Int) (A : Option Addr) (n c : Nat) (M : Int) (B : Option Addr) (m d : Nat) (xs : List Nat) (w : World) (hw : Wts w) (hr : Rd w B m xs) (hn : m ≤ 2097152) :
    Calls Tryz.prog 52 #[.agg #[.int .i64 N, .slice A n c], .agg #[.int .i64 M, .slice B m d]] w (GTell w (setB M xs && decide (M = N))) := by
  have C := Lib.hid (fun W (h : Below w.heap.size w W) => implSetOk M B m d xs W (hw.below h) (hr.below h) hn)
  clear hr hw
  have B0 := Lib.hid ((Blk.new w #[.int .i64 N, .slice A n c] 25).alloc (.cells #[.int .i64 M, .slice B m d] 30))
  have B1 := Lib.hid (Blk.new (w.alloc (.cells #[.int .i64 N, .slice A n c] 25)) #[.int .i64 M, .slice B m d] 30)
  rw [World.size_alloc] at B1
  cases hs : setB M xs with
  | false =>
    rw [hs] at C
    rw [Bool.false_and]
    clear hs
    go_enter Tryz.func52, Tryz.ntmps52
    go_wp2_with fail
    refine (C.out _ (below_a2 _ _ _)).mono ?_
    rintro e w1 ⟨rfl, hb⟩
    have H1 := Lib.hid (g_chain (below_a2 w (.cells #[.int .i64 N, .slice A n c] 25) (.cells #[.int .i64 M, .slice B m d] 30)) hb)
    clear hb
    go_wp2
    go_ret
    exact ⟨rfl, H1.out⟩
  | true =>
    rw [hs] at C
    rw [Bool.true_and]
    clear hs
    go_enter Tryz.func52, Tryz.ntmps52
    go_wp2_with fail
    refine (C.out _ (below_a2 _ _ _)).mono ?_
    rintro e w1 ⟨rfl, hb⟩
    have H1 := Lib.hid (g_chain (below_a2 w (.cells #[.int .i64 N, .slice A n c] 25) (.cells #[.int .i64 M, .slice B m d] 30)) hb)
    have x0 := (B0.out.below hb).cell (i := 0) rfl
    have x1 := (B1.out.below hb).cell (i := 0) rfl
    clear hb
    go_wp2
    go_ret
    exact ⟨rfl, H1.out⟩
/-- A run that is over. -/
def overB (dn : Bool) (it : Int) : Bool := dn || decide (it = 1000)
theorem over_any (b : Nat) (p s it : Int) (dn : Bool) (x4 x5 x6 x7 : Value) (w : World) (hb : Blk w b #[.int .i64 p, .int .i64 s, .int .i64 it, .bool dn, x4, x5, x6, x7] 32) :
    Calls Tryz.prog 45 #[.pointer (some ⟨b, 0, none⟩)] w fun e w' => e = .returned (.bool (overB dn it)) ∧ w = w' := by
  have c2 := hb.cell (i := 2) rfl
  have c3 := hb.cell (i := 3) rfl
  have hl := hb.lt
  clear hb
  cases dn with
  | true =>
    have hd : overB true it = true := by unfold overB; simp
    rw [hd]
    go_enter Tryz.func45, Tryz.ntmps45
    go_wp2
    go_ret
    exact ⟨rfl, rfl⟩
  | false =>
    have hd : overB false it = decide (it = 1000) := by unfold overB; simp
    rw [hd]
    go_enter Tryz.func45, Tryz.ntmps45
    go_wp2
    go_ret
    exact ⟨rfl, rfl⟩
theorem otherEnd_any (e : GE) (v : Int) (w : World) :
    Calls Tryz.prog 104 #[.agg #[.int .i64 e.f, .int .i64 e.t, .int .i64 e.w], .int .i64 v] w (GNum w (otherE e v)) := by
  unfold otherE
  by_cases h : e.f = v
  · rw [if_pos h]
    go_enter Tryz.func104, Tryz.ntmps104
    go_wp2
    go_ret
    exact ⟨rfl, below_a1 _ _⟩
  · rw [if_neg h]
    go_enter Tryz.func104, Tryz.ntmps104
    go_wp2
    go_ret
    exact ⟨rfl, below_a1 _ _⟩
end Go.Proofs.YtlhcobkncceodaaGreatDoor
