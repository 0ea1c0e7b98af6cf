/- The contracts of the program's RunOk, RunIter and RunAll over a run that is valid (conditions: at most 13 edges). // A slice of bytes as a string: what the conversion gives, and when two such strings are the same. // The contracts of the laws' helpers sameInts and sameRun, over lists and runs that read alike (conditions: at most 2^21 numbers or bytes). // The table of the weights as a row lists it: what the listed datum says of memory; it reads as before where nothing old is written. // The opening of an argument that is a slice of bytes: what it reads (no condition). -/
import Derived.Test.YtlhcobkncceodaaGreatDoorKRunAllI
import Derived.Test.YtlhcobkncceodaaGreatDoorKRunIterI
import Derived.Test.YtlhcobkncceodaaGreatDoorCGD
import Derived.Test.YtlhcobkncceodaaGreatDoorRows
import Derived.Test.YtlhcobkncceodaaGreatDoorCGA
import Derived.Laws.BytesArg
import Derived.Shelf.Bytes.SlSmallAll
import Derived.Lib.SlBytesRow
import Derived.Test.YtlhcobkncceodaaGreatDoorCGC
import Derived.Test.YtlhcobkncceodaaGreatDoorCGF
import Derived.WalkKit
import Derived.ProofKit
import Derived.LaidMore
import Derived.Lay
import Derived.OpenShut
import Derived.ChangeVars
import Derived.Lib.LaidTab
namespace Go.Proofs.YtlhcobkncceodaaGreatDoor
open Go.RowKit
set_option linter.unusedVariables false

theorem ops_lim {M : Nat} {es : List GE} {r : RD} (hr : RunP M es r) : r.vs.length ≤ 2097152 ∧ r.nx.length ≤ 2097152 ∧ r.ev.length = es.length := by
  have h1 := hr.vl
  have h2 := hr.el
  have h3 := (setB_dim hr.nx).2.2
  have h4 := hr.n150
  simp only [Int.toNat_natCast] at h3
  unfold bytesN at h3
  omega
theorem implAllR (M : Nat) (B : Option Addr) (d : Nat) (es : List GE) (r : RD) (k : Nat) (A1 : Option Addr) (c1 : Nat) (B1 : Option Addr) (d1 : Nat) (C1 : Option Addr) (k1 lo : Nat) (w : World) (hw : Wts w) (hr : RunP M es r) (hsm : SmallR r) (hs : SlG w B es.length es) (hl : es.length ≤ 13) (hst : Rows3 w lo A1 r.vs.length c1 B1 r.ev.length d1 C1 r.nx.length k1 r.vs r.ev r.nx) :
    Calls Tryz.prog 10 #[.agg #[.int .i64 (M : Int), .slice B es.length d], .agg #[.int .i64 r.p, .int .i64 r.s, .int .i64 r.it, .bool r.dn, .slice A1 r.vs.length c1, .slice B1 r.ev.length d1, .int .i64 r.nn, .slice C1 r.nx.length k1], .int .i64 (k : Int)] w (MadeRO w (allR (M : Int) es r k)) := by
  obtain ⟨h1, h2, h3⟩ := ops_lim hr
  have h := implRunAll (M : Int) B es.length d es r.p r.s r.it r.dn A1 r.vs.length c1 B1 r.ev.length d1 r.nn C1 r.nx.length k1 r.vs r.ev r.nx (k : Int) w hw hs (SlI.of_own hst.v) (SlI.of_own hst.e) (Rd.of_own hst.x hsm) (by omega) h1 (by omega) h2
  unfold allO at h
  rw [runB_iff.2 (show RunP M es ⟨r.p, r.s, r.it, r.dn, r.vs, r.ev, r.nn, r.nx⟩ from hr)] at h
  simp only [if_true, Int.toNat_natCast] at h
  exact h
theorem implOkR (M : Nat) (B : Option Addr) (d : Nat) (es : List GE) (r : RD) (A1 : Option Addr) (c1 : Nat) (B1 : Option Addr) (d1 : Nat) (C1 : Option Addr) (k1 lo : Nat) (w : World) (hw : Wts w) (hr : RunP M es r) (hsm : SmallR r) (hs : SlG w B es.length es) (hl : es.length ≤ 13) (hst : Rows3 w lo A1 r.vs.length c1 B1 r.ev.length d1 C1 r.nx.length k1 r.vs r.ev r.nx) :
    Calls Tryz.prog 13 #[.agg #[.int .i64 (M : Int), .slice B es.length d], .agg #[.int .i64 r.p, .int .i64 r.s, .int .i64 r.it, .bool r.dn, .slice A1 r.vs.length c1, .slice B1 r.ev.length d1, .int .i64 r.nn, .slice C1 r.nx.length k1]] w (GTell w true) := by
  obtain ⟨h1, h2, h3⟩ := ops_lim hr
  have h := implRunOk (M : Int) B es.length d es r.p r.s r.it r.dn A1 r.vs.length c1 B1 r.ev.length d1 r.nn C1 r.nx.length k1 r.vs r.ev r.nx w hw hs (SlI.of_own hst.v) (SlI.of_own hst.e) (Rd.of_own hst.x hsm) (by omega) h1 (by omega) h2
  rw [runB_iff.2 (show RunP M es ⟨r.p, r.s, r.it, r.dn, r.vs, r.ev, r.nn, r.nx⟩ from hr)] at h
  exact h
theorem implIterR (M : Nat) (B : Option Addr) (d : Nat) (es : List GE) (p s it : Int) (dn : Bool) (vs ev : List Int) (nx : List Nat) (A1 : Option Addr) (c1 : Nat) (B1 : Option Addr) (d1 : Nat) (C1 : Option Addr) (k1 : Nat) (w : World) (hw : Wts w) (hr : RunP M es ⟨p, s, it, dn, vs, ev, (M : Int), nx⟩) (hs : SlG w B es.length es) (hl : es.length ≤ 13) (hv : SlI w A1 vs.length vs) (he : SlI w B1 ev.length ev) (hx : Rd w C1 nx.length nx) (b : Bool) (hb : (dn || decide (it = 1000)) = !b) :
    Calls Tryz.prog 15 #[.agg #[.int .i64 (M : Int), .slice B es.length d], .agg #[.int .i64 p, .int .i64 s, .int .i64 it, .bool dn, .slice A1 vs.length c1, .slice B1 ev.length d1, .int .i64 (M : Int), .slice C1 nx.length k1]] w (MadeRB w (if b then iterR (M : Int) es ⟨p, s, it, dn, vs, ev, (M : Int), nx⟩ else noRun) b) := by
  obtain ⟨h1, h2, h3⟩ := ops_lim hr
  simp only at h1 h2 h3
  have h := implRunIter (M : Int) B es.length d es p s it dn A1 vs.length c1 B1 ev.length d1 (M : Int) C1 nx.length k1 vs ev nx w hw hs hv he hx (by omega) h1 (by omega) h2
  have h5 := iterB_over (runB_iff.2 hr)
  simp only at h5
  rw [hb, Bool.not_not] at h5
  unfold iterO at h
  rw [h5] at h
  exact h
theorem implIterV (M : Nat) (B : Option Addr) (d : Nat) (es : List GE) (r : RD) (A1 : Option Addr) (c1 : Nat) (B1 : Option Addr) (d1 : Nat) (C1 : Option Addr) (k1 lo : Nat) (w : World) (hw : Wts w) (hr : RunP M es r) (hsm : SmallR r) (hs : SlG w B es.length es) (hl : es.length ≤ 13) (hst : Rows3 w lo A1 r.vs.length c1 B1 r.ev.length d1 C1 r.nx.length k1 r.vs r.ev r.nx) (b : Bool) (hb : (r.dn || decide (r.it = 1000)) = !b) :
    Calls Tryz.prog 15 #[.agg #[.int .i64 (M : Int), .slice B es.length d], .agg #[.int .i64 r.p, .int .i64 r.s, .int .i64 r.it, .bool r.dn, .slice A1 r.vs.length c1, .slice B1 r.ev.length d1, .int .i64 r.nn, .slice C1 r.nx.length k1]] w (MadeRB w (if b then iterR (M : Int) es r else noRun) b) := by
  obtain ⟨p, s, it, dn, vs, ev, nn, nx⟩ := r
  have hnn := hr.nn
  simp only at hnn
  subst hnn
  exact implIterR M B d es p s it dn vs ev nx A1 c1 B1 d1 C1 k1 w hw hr hs hl (SlI.of_own hst.v) (SlI.of_own hst.e) (Rd.of_own hst.x hsm) b hb
end Go.Proofs.YtlhcobkncceodaaGreatDoor
namespace Go.Proofs.YtlhcobkncceodaaGreatDoor
open Go.RowKit

def strB (xs : List Nat) : ByteArray := strOfNums (xs.map fun n : Nat => (n : Int))
theorem conv_rd {w : World} {A : Option Addr} {n : Nat} {xs : List Nat} (c : Nat) (h : Rd w A n xs) : (convert 22 9 (.slice A n c)).run Tryz.prog w = .ok (.string (strB xs)) w := by
  rcases Nat.eq_zero_or_pos n with h0 | h0
  · subst h0
    obtain rfl : xs = [] := List.eq_nil_of_length_eq_zero h.len
    exact run_convert_bytes_zero w 22 5 Tryz.underlying22 Tryz.underlying5 A c 9 Tryz.underlying9
  · obtain ⟨b, off, rfl, hb, hc⟩ := h.lies h0
    refine run_convert_bytes_arg w 22 5 Tryz.underlying22 Tryz.underlying5 b off n c _ (by simp [h.len]) (fun i hi => ?_) 9 Tryz.underlying9
    have hl : i < xs.length := by rw [h.len]; exact hi
    rw [hc i xs[i] (List.getElem?_eq_getElem hl)]
    simp [List.getElem?_eq_getElem hl]
end Go.Proofs.YtlhcobkncceodaaGreatDoor
namespace Go.Proofs.YtlhcobkncceodaaGreatDoor
open Go.RowKit
set_option linter.unusedVariables false

set_option maxRecDepth 10000 in
set_option maxHeartbeats 1000000 in
theorem sameInts_any (A B : Option Addr) (n c d : Nat) (xs : List Int) (w : World) (ha : SlI w A n xs) (hb : SlI w B n xs) (hn : n ≤ 2097152) :
    Calls Tryz.prog 16 #[.slice A n c, .slice B n d] w (GTell w true) := by
  have HA := Lib.hid ha
  have HB := Lib.hid hb
  clear ha hb
  go_enter Tryz.func16, Tryz.ntmps16
  go_wp2
  go_loopw [13] (fun i wr => ∃ k : Nat, k ≤ n ∧ i = .int .i64 k ∧ Hid (Below w.heap.size w wr)) (fun i _ => n - (intOf i).toNat)
  case atStart => exact ⟨0, Nat.zero_le _, rfl, Lib.hid (Below.refl _ _)⟩
  case round =>
    obtain ⟨k, hk, rfl, hbel⟩ := hrel
    by_cases hlt : k < n
    · obtain ⟨b, off, e, rfl, hbw, he, c0⟩ := HA.out.at_ hlt
      obtain ⟨b', off', e', rfl, hbw', he', c0'⟩ := HB.out.at_ hlt
      have hee : e' = e := by have h1 := he.out; rw [he'.out] at h1; injection h1
      subst hee
      have c0 := (hbel.out.cell (p := ⟨b, off + k, none⟩) hbw).trans c0
      have c0' := (hbel.out.cell (p := ⟨b', off' + k, none⟩) hbw').trans c0'
      clear he he'
      go_wp2
      go_region
      go_wp2
      go_roundw
      case rel => exact ⟨k + 1, by omega, by go_num, Lib.hid (by first | exact hbel.out | exact hbel.out.drew | exact hbel.out.drew.drew)⟩
      case measure => simp [intOf]; omega
    · go_wp2
      go_ret
      exact ⟨rfl, hbel.out⟩
set_option maxRecDepth 20000 in
set_option maxHeartbeats 4000000 in
theorem sameRun_any (p s it : Int) (dn : Bool) (A : Option Addr) (n c : Nat) (B : Option Addr) (m d : Nat) (nn : Int) (C : Option Addr) (j k : Nat) (A' : Option Addr) (c' : Nat) (B' : Option Addr) (d' : Nat) (C' : Option Addr) (k' : Nat) (vs ev : List Int) (nx : List Nat) (w : World) (hv : SlI w A n vs) (he : SlI w B m ev) (hx : Rd w C j nx) (hv' : SlI w A' n vs) (he' : SlI w B' m ev) (hx' : Rd w C' j nx) (h1 : n ≤ 2097152) (h2 : m ≤ 2097152) :
    Calls Tryz.prog 12 #[.agg #[.int .i64 p, .int .i64 s, .int .i64 it, .bool dn, .slice A n c, .slice B m d, .int .i64 nn, .slice C j k], .agg #[.int .i64 p, .int .i64 s, .int .i64 it, .bool dn, .slice A' n c', .slice B' m d', .int .i64 nn, .slice C' j k']] w (GTell w true) := by
  have C1 := Lib.hid (fun W (h : Below w.heap.size w W) => sameInts_any A A' n c c' vs W (hv.below h) (hv'.below h) h1)
  have C2 := Lib.hid (fun W (h : Below w.heap.size w W) => sameInts_any B B' m d d' ev W (he.below h) (he'.below h) h2)
  have HX := Lib.hid hx
  have HX' := Lib.hid hx'
  have hpp : (p == p) = true := by simp
  have hss : (s == s) = true := by simp
  clear hv he hx hv' he' hx'
  have H_1 := Lib.hid (g_chain (g_chain (Below.refl w.heap.size w) (below_a1 w (.cells #[.int .i64 p, .int .i64 s, .int .i64 it, .bool dn, .slice A n c, .slice B m d, .int .i64 nn, .slice C j k] 32))) (below_a1 (w.alloc (.cells #[.int .i64 p, .int .i64 s, .int .i64 it, .bool dn, .slice A n c, .slice B m d, .int .i64 nn, .slice C j k] 32)) (.cells #[.int .i64 p, .int .i64 s, .int .i64 it, .bool dn, .slice A' n c', .slice B' m d', .int .i64 nn, .slice C' j k'] 32)))
  have B1_2 : Hid (Blk ((w.alloc (.cells #[.int .i64 p, .int .i64 s, .int .i64 it, .bool dn, .slice A n c, .slice B m d, .int .i64 nn, .slice C j k] 32)).alloc (.cells #[.int .i64 p, .int .i64 s, .int .i64 it, .bool dn, .slice A' n c', .slice B' m d', .int .i64 nn, .slice C' j k'] 32)) (w.heap.size) #[.int .i64 p, .int .i64 s, .int .i64 it, .bool dn, .slice A n c, .slice B m d, .int .i64 nn, .slice C j k] 32) := Lib.hid (by have h := (Blk.new w #[.int .i64 p, .int .i64 s, .int .i64 it, .bool dn, .slice A n c, .slice B m d, .int .i64 nn, .slice C j k] 32).alloc (.cells #[.int .i64 p, .int .i64 s, .int .i64 it, .bool dn, .slice A' n c', .slice B' m d', .int .i64 nn, .slice C' j k'] 32); simpa [Nat.add_assoc] using h)
  have B2_3 : Hid (Blk ((w.alloc (.cells #[.int .i64 p, .int .i64 s, .int .i64 it, .bool dn, .slice A n c, .slice B m d, .int .i64 nn, .slice C j k] 32)).alloc (.cells #[.int .i64 p, .int .i64 s, .int .i64 it, .bool dn, .slice A' n c', .slice B' m d', .int .i64 nn, .slice C' j k'] 32)) (w.heap.size + 1) #[.int .i64 p, .int .i64 s, .int .i64 it, .bool dn, .slice A' n c', .slice B' m d', .int .i64 nn, .slice C' j k'] 32) := Lib.hid (by have h := Blk.new (w.alloc (.cells #[.int .i64 p, .int .i64 s, .int .i64 it, .bool dn, .slice A n c, .slice B m d, .int .i64 nn, .slice C j k] 32)) #[.int .i64 p, .int .i64 s, .int .i64 it, .bool dn, .slice A' n c', .slice B' m d', .int .i64 nn, .slice C' j k'] 32; simpa [Nat.add_assoc] using h)
  have sz0 : Hid (w.heap.size + 2 ≤ ((w.alloc (.cells #[.int .i64 p, .int .i64 s, .int .i64 it, .bool dn, .slice A n c, .slice B m d, .int .i64 nn, .slice C j k] 32)).alloc (.cells #[.int .i64 p, .int .i64 s, .int .i64 it, .bool dn, .slice A' n c', .slice B' m d', .int .i64 nn, .slice C' j k'] 32)).heap.size) := Lib.hid (by simp)
  go_enter Tryz.func12, Tryz.ntmps12
  have x_4 := B1_2.out.cell (i := 0) rfl
  have x_5 := B1_2.out.cell (i := 1) rfl
  have x_6 := B1_2.out.cell (i := 2) rfl
  have x_7 := B1_2.out.cell (i := 3) rfl
  have x_8 := B1_2.out.cell (i := 4) rfl
  have x_9 := B1_2.out.cell (i := 5) rfl
  have x_10 := B1_2.out.cell (i := 6) rfl
  have x_11 := B1_2.out.cell (i := 7) rfl
  have x_12 := B2_3.out.cell (i := 0) rfl
  have x_13 := B2_3.out.cell (i := 1) rfl
  have x_14 := B2_3.out.cell (i := 2) rfl
  have x_15 := B2_3.out.cell (i := 3) rfl
  have x_16 := B2_3.out.cell (i := 4) rfl
  have x_17 := B2_3.out.cell (i := 5) rfl
  have x_18 := B2_3.out.cell (i := 6) rfl
  have x_19 := B2_3.out.cell (i := 7) rfl
  go_wp2_with fail
  refine (C1.out _ H_1.out).mono ?_
  rintro e w1 ⟨rfl, hb⟩
  clear x_4
  clear x_5
  clear x_6
  clear x_7
  clear x_8
  clear x_9
  clear x_10
  clear x_11
  clear x_12
  clear x_13
  clear x_14
  clear x_15
  clear x_16
  clear x_17
  clear x_18
  clear x_19
  have H_20 := Lib.hid (g_chain H_1.out hb)
  clear H_1
  have B1_21 := Lib.hid (B1_2.out.below hb)
  clear B1_2
  have B2_22 := Lib.hid (B2_3.out.below hb)
  clear B2_3
  have sz_23 := Lib.hid (Below.size hb)
  clear hb
  have x_24 := B1_21.out.cell (i := 0) rfl
  have x_25 := B1_21.out.cell (i := 1) rfl
  have x_26 := B1_21.out.cell (i := 2) rfl
  have x_27 := B1_21.out.cell (i := 3) rfl
  have x_28 := B1_21.out.cell (i := 4) rfl
  have x_29 := B1_21.out.cell (i := 5) rfl
  have x_30 := B1_21.out.cell (i := 6) rfl
  have x_31 := B1_21.out.cell (i := 7) rfl
  have x_32 := B2_22.out.cell (i := 0) rfl
  have x_33 := B2_22.out.cell (i := 1) rfl
  have x_34 := B2_22.out.cell (i := 2) rfl
  have x_35 := B2_22.out.cell (i := 3) rfl
  have x_36 := B2_22.out.cell (i := 4) rfl
  have x_37 := B2_22.out.cell (i := 5) rfl
  have x_38 := B2_22.out.cell (i := 6) rfl
  have x_39 := B2_22.out.cell (i := 7) rfl
  go_wp2_with fail
  refine (C2.out _ H_20.out).mono ?_
  rintro e w2 ⟨rfl, hb⟩
  clear x_24
  clear x_25
  clear x_26
  clear x_27
  clear x_28
  clear x_29
  clear x_30
  clear x_31
  clear x_32
  clear x_33
  clear x_34
  clear x_35
  clear x_36
  clear x_37
  clear x_38
  clear x_39
  have H_40 := Lib.hid (g_chain H_20.out hb)
  clear H_20
  have B1_41 := Lib.hid (B1_21.out.below hb)
  clear B1_21
  have B2_42 := Lib.hid (B2_22.out.below hb)
  clear B2_22
  have sz_43 := Lib.hid (Below.size hb)
  clear hb
  have x_44 := B1_41.out.cell (i := 0) rfl
  have x_45 := B1_41.out.cell (i := 1) rfl
  have x_46 := B1_41.out.cell (i := 2) rfl
  have x_47 := B1_41.out.cell (i := 3) rfl
  have x_48 := B1_41.out.cell (i := 4) rfl
  have x_49 := B1_41.out.cell (i := 5) rfl
  have x_50 := B1_41.out.cell (i := 6) rfl
  have x_51 := B1_41.out.cell (i := 7) rfl
  have x_52 := B2_42.out.cell (i := 0) rfl
  have x_53 := B2_42.out.cell (i := 1) rfl
  have x_54 := B2_42.out.cell (i := 2) rfl
  have x_55 := B2_42.out.cell (i := 3) rfl
  have x_56 := B2_42.out.cell (i := 4) rfl
  have x_57 := B2_42.out.cell (i := 5) rfl
  have x_58 := B2_42.out.cell (i := 6) rfl
  have x_59 := B2_42.out.cell (i := 7) rfl
  have V1 := conv_rd k (HX.out.below H_40.out)
  have V2 := conv_rd k' (HX'.out.below H_40.out)
  generalize strB nx = ss at V1 V2
  go_wp2
  go_ret
  exact ⟨rfl, H_40.out⟩
end Go.Proofs.YtlhcobkncceodaaGreatDoor
namespace Go.Proofs.YtlhcobkncceodaaGreatDoor
open Go.ChangeShapes Go.WideShapes Go.ChangeAt Go.RowKit
set_option linter.unusedVariables false

def wtZ : List Int := [1, 2, 4, 8, 16, 32, 64, 128]
def wtV : Array Value := #[.int .u8 1, .int .u8 2, .int .u8 4, .int .u8 8, .int .u8 16, .int .u8 32, .int .u8 64, .int .u8 128]
theorem weights_data : [("loop.example/g00671/impl.weights", (Rows.laid_loop_example_g00671_impl_weights : DataW Unit))] = [("loop.example/g00671/impl.weights", (Lib.tabData .u8 wtZ : DataW Unit))] := by kernel_rfl
theorem weights_name : Tryz.prog.globalNamed "loop.example/g00671/impl.weights" = some 0 := by kernel_rfl
theorem weights_type : (Tryz.prog.globals[0]?).map (·.type) = some 140 := by kernel_rfl
theorem weights_var {W : World} (h : laidMet Tryz.prog [("loop.example/g00671/impl.weights", (Lib.tabData .u8 wtZ : DataW Unit))] W) : W.var? Tryz.prog "loop.example/g00671/impl.weights" = some wtV :=
  Lib.tabIs_of_head (g := 0) (t := 140) (e := 5) (n := 8) weights_name weights_type Tryz.underlying140 Tryz.underlying5 (by kernel_rfl) (by kernel_rfl) h
/-- How it reads, whatever the memory. -/
abbrev wtH {H : Type} : DataW H := Rows.laid_loop_example_g00671_impl_weights
theorem weights_reads {H : Type} (enc : TypeId × Value → H) (W : World) (sp : Nat → Bool) : DataW.trod enc Tryz.prog W 0 sp true 3 140 wtV.toList = some (wtH, []) := by kernel_rfl
theorem weights_trod {H : Type} (enc : TypeId × Value → H) {W : World} (h : W.var? Tryz.prog "loop.example/g00671/impl.weights" = some wtV) (sp : Nat → Bool) :
    DataW.TrodVars enc Tryz.prog W sp ["loop.example/g00671/impl.weights"] [wtH] (MemPlace.row ⟨0, 0, none⟩ wtV.size ++ []) :=
  trodVars_mk1 weights_name weights_type h (weights_reads enc W sp)
theorem weights_met {W : World} (h : W.var? Tryz.prog "loop.example/g00671/impl.weights" = some wtV) : Wts W := by
  have hc : ∀ i, i < 8 → W.cell? ⟨0, i, none⟩ = some (.int .u8 ((2 ^ i : Nat) : Int)) := by
    intro i hi
    have h0 := World.var?_cell weights_name h i
    rw [h0]
    have : i = 0 ∨ i = 1 ∨ i = 2 ∨ i = 3 ∨ i = 4 ∨ i = 5 ∨ i = 6 ∨ i = 7 := by omega
    rcases this with rfl | rfl | rfl | rfl | rfl | rfl | rfl | rfl <;> rfl
  exact ⟨World.block_lt_of_cell? W _ (hc 0 (by omega)), hc⟩
theorem weights_below {W W' : World} (h : W.var? Tryz.prog "loop.example/g00671/impl.weights" = some wtV) (hb : Below W.heap.size W W') : W'.var? Tryz.prog "loop.example/g00671/impl.weights" = some wtV := by
  have hl := (weights_met h).lt
  unfold World.var? at h ⊢
  rw [weights_name, Option.bind_some] at h ⊢
  rw [hb.block _ hl]
  exact h
end Go.Proofs.YtlhcobkncceodaaGreatDoor
namespace Go.Proofs.YtlhcobkncceodaaGreatDoor
open Go.ChangeShapes Go.WideShapes Go.ChangeAt Go.RowKit

set_option maxRecDepth 100000 in
theorem open_yb {H : Type} {enc : TypeId × Value → H} {w : World} {r : Reach} {b0 : Nat} {v : Value} {d : DataW H} {p : List MemPlace} (hv : Value.okWide Tryz.prog w r b0 22 v) (h : DataW.Trod enc Tryz.prog w 0 (fun _ => true) true 22 v d p) :
    ∃ A n c xs, v = .slice A n c ∧ Rd w A n xs ∧ n ≤ c ∧ c ≤ maxLen := by
  obtain ⟨a0, len0, cap0, rfl⟩ := okWide_slice Tryz.underlying22 hv
  obtain ⟨z0, w0⟩ : ∃ zs, IsRow .u8 w a0 len0 cap0 zs := by
    obtain ⟨fuel, hf⟩ := h
    rcases Go.ChangeShapes.open_ints Tryz.underlying22 Tryz.underlying5 (by kernel_rfl) hf with ⟨hcs, _⟩ | ⟨x, l, c, zs, hcs, _, hl, hm, hz, _, hcell, hwz⟩
    · simp [Value.cells] at hcs
      obtain ⟨rfl, rfl, rfl⟩ := hcs
      exact ⟨[], .inl ⟨rfl, rfl, rfl, rfl⟩⟩
    · simp [Value.cells] at hcs
      obtain ⟨rfl, rfl, rfl⟩ := hcs
      exact ⟨zs, .inr ⟨_, rfl, hl, hm, by simpa using hz, hcell, hwz⟩⟩
  obtain ⟨h1, h2, xs, hr⟩ := w0.rd
  exact ⟨a0, len0, cap0, xs, rfl, hr, h1, h2⟩
end Go.Proofs.YtlhcobkncceodaaGreatDoor
