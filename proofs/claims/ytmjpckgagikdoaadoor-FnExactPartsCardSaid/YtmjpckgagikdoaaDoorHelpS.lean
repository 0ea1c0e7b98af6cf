/- The contracts of the law's helpers over slices of strings: 'eqStringS' of two slices that read the same returns true and writes nothing; 'markStringS' writes the marks into a row of the call's own, and nothing else that was there; 'heldStringS' finds them. Condition: at most 2^21 strings. -/
import Derived.Test.YtmjpckgagikdoaaDoorWordsS
namespace Go.Proofs.YtmjpckgagikdoaaDoor
open Go.RowKit

set_option maxHeartbeats 400000 in
theorem sameS_any (A B : Option Addr) (n c d : Nat) (ss : List ByteArray) (w : World) (ha : RdS w A n ss) (hb : RdS w B n ss) (hn : n ≤ 2097152) :
    Calls Tryd.prog 21 #[.slice A n c, .slice B n d] w fun e w' => e = .returned (.bool true) ∧ ∃ m, w' = w.drewN m := by
  go_enter Tryd.func21, Tryd.ntmps21
  go_wp2
  go_loopw [5] (fun i wr => ∃ k : Nat, k ≤ n ∧ i = .int .i64 k ∧ ∃ m, wr = w.drewN m) (fun i _ => n - (intOf i).toNat)
  case atStart => exact ⟨0, Nat.zero_le _, rfl, 0, rfl⟩
  case round =>
    obtain ⟨k, hk, rfl, m, rfl⟩ := hrel
    by_cases hlt : k < n
    · obtain ⟨b, off, x, rfl, hbw, hxs, hc⟩ := ha.at_ hlt
      obtain ⟨b', off', x', rfl, hbw', hxs', hc'⟩ := hb.at_ hlt
      obtain rfl : x = x' := by have := hxs.out.symm.trans hxs'.out; injection this
      have hxx : (x.toList == x.toList) = true := by simp
      go_wp2
      go_quiet (fail)
      go_wp2
      go_roundw
      case rel => exact ⟨k + 1, by omega, by go_num, _, rfl⟩
      case measure => simp [intOf]; omega
    · go_wp2
      go_ret
      exact ⟨rfl, m, rfl⟩

def mtsTo (ss : List ByteArray) (k : Nat) : List ByteArray := (List.range k).map (fun i => mt (i + 1)) ++ ss.drop k
theorem mtsTo_zero (ss : List ByteArray) : mtsTo ss 0 = ss := by simp [mtsTo]
def mts (n : Nat) : List ByteArray := (List.range n).map (fun i => mt (i + 1))
theorem mts_get (n k : Nat) (h : k < n) : (mts n)[k]? = some (mt (k + 1)) := by simp [mts, h]
theorem mtsTo_full (ss : List ByteArray) : mtsTo ss ss.length = mts ss.length := by simp [mtsTo, mts]
theorem mtsTo_step (ss : List ByteArray) (k : Nat) (h : k < ss.length) : (vs (mtsTo ss k)).set k (.string (mt (k + 1))) = vs (mtsTo ss (k + 1)) := by
  have : (mtsTo ss k).set k (mt (k + 1)) = mtsTo ss (k + 1) := by
    unfold mtsTo
    rw [List.set_append_right _ _ (by simp), List.length_map, List.length_range, Nat.sub_self, List.drop_eq_getElem_cons h, List.set_cons_zero, List.range_succ, List.map_append, List.append_assoc]
    rfl
  rw [← this]
  simp [vs, List.map_set]

theorem markText_succ (k : Nat) (w : World) (hk : k ≤ 4194303) : Calls Tryd.prog 33 #[.int .i64 ((k : Int) + 1)] w fun e w' => e = .returned (.string (mt (k + 1))) ∧ Below w.heap.size w w' :=
  markText_any (k + 1) w (by omega) (by omega)

def MarkedS (w : World) (base n : Nat) (A : Option Addr) (c : Nat) (e : Ending) (w' : World) : Prop :=
  e = .returned (.int .i64 (n + 1 : Int)) ∧ w'.ownsRow base 9 1 (.slice A n c) n (vs (mts n)) ∧ w.grownBy w' (Value.slice A n c).ownBlock

set_option maxRecDepth 10000 in
set_option maxHeartbeats 1000000 in
theorem markS_any (A : Option Addr) (n c base : Nat) (ss : List ByteArray) (w : World) (ho : w.ownsRow base 9 1 (.slice A n c) n (vs ss)) (h0 : 0 < n) (hn : n ≤ 2097152) :
    Calls Tryd.prog 22 #[.slice A n c, .int .i64 1] w (MarkedS w base n A c) := by
  have hl : ss.length = n := by have := ho.1; rw [vs_length] at this; omega
  obtain ⟨g, cap, hv, hbase, hlt⟩ := ho.form h0
  obtain ⟨rfl, -, rfl⟩ : A = some ⟨g, 0, none⟩ ∧ n = n ∧ c = cap := by injection hv with e1 e2 e3; exact ⟨e1, e2, e3⟩
  clear hv
  have HL := Lib.hid hl
  have ho0 : w.ownsRow base 9 1 (.slice (some ⟨g, 0, none⟩) n c) n (vs (mtsTo ss 0)) := by rw [mtsTo_zero]; exact ho
  clear hl ho
  go_enter Tryd.func22, Tryd.ntmps22
  go_wp2
  go_loopw [1, 5] (fun t i wr => ∃ k : Nat, k ≤ n ∧ i = .int .i64 k ∧ t = .int .i64 (k + 1 : Int) ∧ wr.ownsRow base 9 1 (.slice (some ⟨g, 0, none⟩) n c) n (vs (mtsTo ss k)) ∧ w.grownBy wr (some g)) (fun _ i _ => n - (intOf i).toNat)
  case atStart => exact ⟨0, Nat.zero_le _, rfl, rfl, ho0, World.grownBy.refl _ _⟩
  case round =>
    obtain ⟨k, hk, rfl, rfl, hown, hgr⟩ := hrel
    by_cases hlt2 : k < n
    · have C := Lib.hid (markText_succ k wr (by omega))
      have HO := Lib.hid hown
      have HGR := Lib.hid hgr
      clear hown hgr
      go_wp2_with fail
      refine C.out.mono ?_
      rintro e w1 ⟨rfl, hb1⟩
      have ho1 := own_below HO.out hb1
      have hl2 : k < (vs (mtsTo ss k)).length := by rw [ho1.1]; omega
      have hcell2 : w1.cell? ⟨g, k, none⟩ = some (vs (mtsTo ss k))[k] := by rw [ho1.cellAt k (by omega), List.getElem?_eq_getElem hl2]
      have hfr := ho1.frozenAt k
      have HO1 := Lib.hid ho1
      generalize (vs (mtsTo ss k))[k] = old at hcell2
      clear ho1 hl2
      go_wp2
      have hst := HO1.out.stored k (.string (mt (k + 1)))
      rw [mtsTo_step ss k (by rw [HL.out]; exact hlt2)] at hst
      go_roundw
      case rel => exact ⟨k + 1, by omega, by go_num, by go_num, hst.1, grownBy_trans (grownBy_trans HGR.out (grownBy_of_below hb1 _)) hst.2⟩
      case measure => simp [intOf]; omega
    · obtain rfl : k = n := by omega
      go_wp2
      go_ret
      have e := HL.out
      subst e
      rw [mtsTo_full] at hown
      exact ⟨rfl, hown, hgr⟩

set_option maxRecDepth 10000 in
set_option maxHeartbeats 1000000 in
theorem heldS_any (A : Option Addr) (n c : Nat) (w : World) (hr : RdS w A n (mts n)) (hn : n ≤ 2097152) :
    Calls Tryd.prog 23 #[.slice A n c, .int .i64 1] w fun e w' => e = .returned (.int .i64 (n + 1 : Int)) ∧ Below w.heap.size w w' := by
  go_enter Tryd.func23, Tryd.ntmps23
  go_wp2
  go_loopw [1, 5] (fun t i wr => ∃ k : Nat, k ≤ n ∧ i = .int .i64 k ∧ t = .int .i64 (k + 1 : Int) ∧ Below w.heap.size w wr) (fun _ i _ => n - (intOf i).toNat)
  case atStart => exact ⟨0, Nat.zero_le _, rfl, rfl, Below.refl _ _⟩
  case round =>
    obtain ⟨k, hk, rfl, rfl, hbel⟩ := hrel
    by_cases hlt : k < n
    · obtain ⟨b, off, x, rfl, hbw, hxs, hc⟩ := hr.at_ hlt
      obtain rfl : mt (k + 1) = x := by have := (mts_get n k hlt).symm.trans hxs.out; injection this
      have hcw : wr.cell? ⟨b, off + k, none⟩ = some (.string (mt (k + 1))) := (hbel.cell (by exact hbw)).trans hc
      have hbr : b < wr.heap.size := Nat.lt_of_lt_of_le hbw hbel.size
      have C0 := fun W => markText_succ k W (by omega)
      have hxx : ((mt (k + 1)).toList == (mt (k + 1)).toList) = true := by simp
      generalize mt (k + 1) = x at C0 hcw hxx
      have C := Lib.hid C0
      have HB := Lib.hid hbel
      clear C0 hc hbel hr hxs
      go_wp2
      go_region_with (go_at_call 33; ((with_reducible refine (C.out _).mono ?_)); rintro e w1 ⟨rfl, hb1⟩; have hcq : w1.cell? ⟨b, off + k, none⟩ = some (.string x) := (hb1.cell (p := ⟨b, off + k, none⟩) hbr).trans hcw)
      all_goals
        go_wp2
        go_roundw
        case rel => exact ⟨k + 1, by omega, by go_num, by go_num, by first | exact (HB.out.drew).trans (hb1.mono HB.out.size) | exact ((HB.out.drew).trans (hb1.mono HB.out.size)).drew⟩
        case measure => simp [intOf]; omega
    · obtain rfl : k = n := by omega
      go_wp2
      go_ret
      exact ⟨rfl, hbel⟩
end Go.Proofs.YtmjpckgagikdoaaDoor
