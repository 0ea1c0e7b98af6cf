/- The contract of the program's function that asks whether a set is valid. // Bits of int (64 bits) at numbers that are not negative: 'or' and 'xor' are those of the natural numbers; an 'or' onto free low bits is a sum. // What a writer of numbers leaves; the digits of numbers of variable length; words for an append of one byte. // Lists of members in memory: what a call that makes one leaves (plain lemmas over the model; no condition). // The contracts of the program's functions that ask for a member of a set and list its members. // Lists of values: the program's test of one. Condition: at most 2^21 numbers. // Runs in memory, the program's small functions: values in a list, no member, a vertex of a graph, a set of a graph, a run that is over, the other end of an edge. Condition: at most 2^21 numbers or bytes. // The contracts of the program's methods wake and update: a vertex of a run updated in place. Conditions: the run's parts are as the graph asks (Good), the vertex is one of the graph. -/
import Derived.Test.YtpgnappddddlpaaGreatDoorCGD
import Derived.Stop.BytesEq
import Derived.Laws.BitsAllLaws
import Derived.Laws.BitsLemmas
import Derived.WalkKit
import Derived.Test.YtpgnappddddlpaaGreatDoorCGA
import Derived.Test.YtpgnappddddlpaaGreatDoorCGC
import Derived.Test.YtpgnappddddlpaaGreatDoorCGF
import Derived.Test.YtpgnappddddlpaaGreatDoorCGE
import Derived.Test.YtpgnappddddlpaaGreatDoorKUpdI
import Derived.Deep.Cut
import Derived.Deep.RegionLaw
import Derived.StillTailTactics
namespace Go.Proofs.YtpgnappddddlpaaGreatDoor
open Go.RowKit
set_option linter.unusedVariables false

theorem okB_1 {N : Int} {xs : List Nat} (h : N < 0) : setB N xs = false := by
  rw [Bool.eq_false_iff]
  intro e
  have := setB_dim e
  omega
theorem okB_2 {N : Int} {xs : List Nat} (h : 150 < N) : setB N xs = false := by
  rw [Bool.eq_false_iff]
  intro e
  have := setB_dim e
  omega
theorem okB_3 {N : Int} {xs : List Nat} (h : xs.length ≠ bytesN N.toNat) : setB N xs = false := by
  rw [Bool.eq_false_iff]
  intro e
  have := setB_dim e
  omega
/-! ### two arrays of eight bytes are compared -/
def wL (x c : Nat) : List UInt8 := (List.range 8).map fun i => UInt8.ofNat (wE x c i)
theorem wE_lt {x c i : Nat} (h : i < 8) : wE x c i < 256 := by
  unfold wE
  split
  · exact (pow8 h).1
  · omega
theorem cell_nat {n : Nat} (h : n < 256) : Extern.Stop.cell (UInt8.ofNat n) = .int .u8 (n : Int) := by
  unfold Extern.Stop.cell
  rw [UInt8.toNat_ofNat', Nat.mod_eq_of_lt h]
  rfl
theorem wC_bytes (x c : Nat) : wC x c = ((wL x c).map Extern.Stop.cell).toArray := by
  unfold wC wL
  rw [show List.range 8 = [0, 1, 2, 3, 4, 5, 6, 7] from rfl]
  simp only [List.map_cons, List.map_nil]
  rw [cell_nat (wE_lt (by omega)), cell_nat (wE_lt (by omega)), cell_nat (wE_lt (by omega)), cell_nat (wE_lt (by omega)), cell_nat (wE_lt (by omega)), cell_nat (wE_lt (by omega)), cell_nat (wE_lt (by omega)), cell_nat (wE_lt (by omega))]
theorem wL_eq {x c d : Nat} : wL x c = wL x d ↔ ∀ i, i < 8 → wE x c i = wE x d i := by
  unfold wL
  rw [List.map_inj_left]
  constructor
  · intro h i hi
    have := h i (List.mem_range.2 hi)
    have h2 := congrArg UInt8.toNat this
    rw [UInt8.toNat_ofNat', UInt8.toNat_ofNat', Nat.mod_eq_of_lt (wE_lt hi), Nat.mod_eq_of_lt (wE_lt hi)] at h2
    exact h2
  · intro h i hi
    rw [h i (List.mem_range.1 hi)]
theorem Tryz.sizeU8 (w : World) : (sizeOf 5).run Tryz.prog w = .ok 1 w := by
  obtain ⟨i0, hi, hz0, hz1, hz2⟩ := info_parts Tryz.infoByte
  simp [sizeOf, typeInfo, hi, hz1]
theorem eq_wC (x c d : Nat) (w : World) : Sem.run Tryz.prog (Op.equalIn 10000 114 (Value.agg (wC x c)) (Value.agg (wC x d))) w = .ok (wL x c == wL x d) w := by
  rw [wC_bytes, wC_bytes]
  exact run_equalIn_bytes w 9998 114 5 8 Tryz.underlying114 Tryz.underlying5 Tryz.sizeU8 _ _ (by simp [wL]) (by simp [wL])
/-- The byte bears no bit from place c on. -/
theorem wL_full {x c : Nat} (hc : c ≤ 8) : wL x 8 = wL x c ↔ ∀ i, c ≤ i → i < 8 → x.testBit i = false := by
  rw [wL_eq]
  constructor
  · intro h i h1 h2
    have := h i h2
    unfold wE at this
    rw [if_neg (show ¬ (i < c ∧ x.testBit i = true) by omega)] at this
    rw [Bool.eq_false_iff]
    intro e
    rw [if_pos ⟨h2, e⟩] at this
    have := (pow8 h2).2
    omega
  · intro h i hi
    unfold wE
    by_cases hic : i < c
    · simp only [hic, hi, true_and]
    · rw [if_neg (by rw [h i (by omega) hi]; simp), if_neg (by omega)]
/-- How many vertices the byte at place i stands for. -/
def cN (N i : Nat) : Nat := min (N - 8 * i) 8
theorem okB_all {N : Nat} {xs : List Nat} (hN : N ≤ 150) (hl : xs.length = bytesN N) (h : ∀ i x, xs[i]? = some x → wL x 8 = wL x (cN N i)) : setB (N : Int) xs = true := by
  refine setB_iff.2 ⟨⟨by omega, by omega, by rw [Int.toNat_natCast]; exact hl⟩, fun v hv => ?_⟩
  rw [Int.toNat_natCast] at hv
  rcases Nat.lt_or_ge (v / 8) xs.length with h1 | h1
  · have hx := List.getElem?_eq_getElem h1
    rw [bit_at hx]
    exact (wL_full (by unfold cN; omega)).1 (h _ _ hx) (v % 8) (by unfold cN; omega) (by omega)
  · exact bitN_far (by omega)
theorem okB_no {N k x : Nat} {xs : List Nat} (hx : xs[k]? = some x) (h : ¬ wL x 8 = wL x (cN N k)) : setB (N : Int) xs = false := by
  rw [Bool.eq_false_iff]
  intro e
  refine h ((wL_full (by unfold cN; omega)).2 fun j h1 h2 => ?_)
  have := (setB_iff.1 e).2 (8 * k + j) (by rw [Int.toNat_natCast]; unfold cN at h1; omega)
  rw [bit_at (x := x) (by rw [show (8 * k + j) / 8 = k by omega]; exact hx), show (8 * k + j) % 8 = j by omega] at this
  exact this
set_option maxRecDepth 10000 in
set_option maxHeartbeats 8000000 in
theorem implSetOk (N : Int) (A : Option Addr) (n c : Nat) (xs : List Nat) (w : World) (hw : Wts w) (hr : Rd w A n xs) (hn : n ≤ 2097152) :
    Calls Tryz.prog 61 #[.agg #[.int .i64 N, .slice A n c]] w (GTell w (setB N xs)) := by
  have HW := Lib.hid hw
  have HL := Lib.hid hr.len
  have HR := Lib.hid hr
  clear hr hw
  by_cases h1 : N < 0
  · have d1 : decide (N < 0) = true := by simp; omega
    rw [okB_1 h1]
    clear h1
    go_enter Tryz.func61, Tryz.ntmps61
    go_wp2
    go_quiet (fail)
    go_wp2
    go_ret
    exact ⟨rfl, below_drewN (below_a1 _ _) _⟩
  · by_cases h2 : 150 < N
    · have d1 : decide (N < 0) = false := by simp; omega
      have d2 : decide (150 < N) = true := by simp; omega
      rw [okB_2 h2]
      clear h1 h2
      go_enter Tryz.func61, Tryz.ntmps61
      go_wp2
      go_quiet (fail)
      go_wp2
      go_ret
      exact ⟨rfl, below_drewN (below_a1 _ _) _⟩
    · obtain ⟨N, rfl⟩ : ∃ k : Nat, N = (k : Int) := ⟨N.toNat, by omega⟩
      have d1 : decide ((N : Int) < 0) = false := by simp
      have d2 : decide (150 < (N : Int)) = false := by simp; omega
      have CB := Lib.hid (fun W => bytesFor N W (by omega))
      by_cases h3 : n = bytesN N
      · have d3 : ((n : Int) == ((bytesN N : Nat) : Int)) = true := by simp; omega
        have d4 : ((n : Int) != ((bytesN N : Nat) : Int)) = false := by simp; omega
        have HN : Hid (n = bytesN N) := Lib.hid h3
        have hn8 : n ≤ 19 := by rw [h3]; unfold bytesN; omega
        clear h1 h3
        generalize bytesN N = q at d3 d4 CB
        go_enter Tryz.func61, Tryz.ntmps61
        go_wp2
        go_quiet (first | (go_at_call 80; exact Calls.quiet_of_same ((CB.out _).mono fun _ _ h => ⟨h.1, h.2.symm⟩)))
        have HB0 := Lib.hid (below_drewN (below_a1 w (.cells #[.int .i64 (N : Int), .slice A n c] 37)) nq)
        have BX0 := Lib.hid ((Box2.new w (.int .i64 (N : Int)) (.slice A n c) 37).below (below_drewN (Below.refl _ _) nq))
        go_wp2
        go_loopw [26] (fun i wr => ∃ k : Nat, k ≤ n ∧ i = .int .i64 k ∧ Hid (Below w.heap.size w wr) ∧ Hid (Box2 wr w.heap.size (.int .i64 (N : Int)) (.slice A n c)) ∧ Hid (∀ i x, i < k → xs[i]? = some x → wL x 8 = wL x (cN N i))) (fun i _ => n - (intOf i).toNat)
        case atStart => exact ⟨0, Nat.zero_le _, rfl, HB0, BX0, Lib.hid (fun i x hi => absurd hi (by omega))⟩
        case round =>
          clear HB0 BX0
          obtain ⟨k, hk, rfl, hb, hbx, hall⟩ := hrel
          obtain ⟨l0, c0, c1⟩ := hbx.out
          by_cases hlt : k < n
          · obtain ⟨b, off, x, rfl, hbw, hx, hxs, hc⟩ := HR.out.at_ hlt
            have hc := (hb.out.cell (p := ⟨b, off + k, none⟩) hbw).trans hc
            have CW := Lib.hid (fun W (h : Below wr.heap.size wr W) (z : Int) (h0 : 0 ≤ z) (h8 : z ≤ 8) => by
              have hz := weightsIn x z.toNat W ((HW.out.below hb.out).below h) hx (by omega)
              rw [Int.toNat_of_nonneg h0] at hz
              exact hz.mono (fun e w' he => (⟨wC x z.toNat, he.1, Lib.hid rfl, he.2⟩ : ∃ cs, e = .returned (.agg cs) ∧ Hid (cs = wC x z.toNat) ∧ Below W.heap.size W w')))
            have hlow : 1 ≤ (N : Int) - (k : Int) * 8 := by rw [HN.out] at hlt; unfold bytesN at hlt; omega
            have hcn : Hid (∀ z : Int, z = min ((N : Int) - (k : Int) * 8) 8 → z.toNat = cN N k) := Lib.hid (fun z hz => by unfold cN; omega)
            go_wp2_with fail
            all_goals
              have hz8 : (0 : Int) ≤ 8 ∧ (8 : Int) ≤ 8 := by omega
              refine (CW.out _ (Below.refl _ _) _ hz8.1 hz8.2).mono ?_
              rintro e wa ⟨cs1, rfl, h81, hba⟩
              have HBA := Lib.hid hba
              clear hba
              go_wp2_with fail
              refine (CW.out _ HBA.out _ (by omega) (by omega)).mono ?_
              rintro e wb ⟨cs2, rfl, h82, hbb⟩
              have e1 : cs1 = wC x 8 := h81.out
              have e2 : cs2 = wC x (cN N k) := h82.out.trans (congrArg (wC x) (hcn.out _ (by omega)))
              have HQ : Sem.run Tryz.prog (Op.equalIn 10000 114 (Value.agg cs1) (Value.agg cs2)) wb = .ok (wL x 8 == wL x (cN N k)) wb := by
                rw [e1, e2]
                exact eq_wC x 8 (cN N k) wb
              have HBB := Lib.hid (s_chain HBA.out hbb)
              clear hbb e1 e2 h81 h82
              cases hq : (wL x 8 == wL x (cN N k)) with
              | true =>
                rw [hq] at HQ
                have hq2 := Lib.hid (beq_iff_eq.1 hq)
                clear hq
                go_wp2
                go_roundw
                case rel =>
                  refine ⟨k + 1, by omega, by go_num, Lib.hid (s_chain hb.out HBB.out), Lib.hid (hbx.out.below HBB.out), Lib.hid (fun i y hi hy => ?_)⟩
                  rcases Nat.lt_or_ge i k with h9 | h9
                  · exact hall.out i y h9 hy
                  · obtain rfl : i = k := by omega
                    have e9 := hxs.out.symm.trans hy
                    injection e9 with e9
                    rw [← e9]
                    exact hq2.out
                case measure => simp [intOf]; omega
              | false =>
                rw [hq] at HQ
                have hq2 := Lib.hid (okB_no hxs.out (beq_eq_false_iff_ne.1 hq))
                clear hq
                go_wp2
                go_ret
                exact ⟨g_bool hq2.out.symm, s_chain hb.out HBB.out⟩
          · obtain rfl : k = n := by omega
            have hq2 := Lib.hid (okB_all (N := N) (xs := xs) (by omega) (HL.out.trans HN.out) (fun i x hx => hall.out i x (by have := (List.getElem?_eq_some_iff.1 hx).1; rw [HL.out] at this; exact this) hx))
            go_wp2
            go_ret
            exact ⟨g_bool hq2.out.symm, hb.out⟩
      · have d3 : ((n : Int) == ((bytesN N : Nat) : Int)) = false := by simp; omega
        have d4 : ((n : Int) != ((bytesN N : Nat) : Int)) = true := by simp; omega
        have HE := Lib.hid (okB_3 (N := (N : Int)) (xs := xs) (by rw [HL.out, Int.toNat_natCast]; exact h3))
        rw [HE.out]
        clear h1 h2 h3 HE
        generalize bytesN N = q at d3 d4 CB
        go_enter Tryz.func61, Tryz.ntmps61
        go_wp2
        go_quiet (first | (go_at_call 80; exact Calls.quiet_of_same ((CB.out _).mono fun _ _ h => ⟨h.1, h.2.symm⟩)))
        go_wp2
        go_ret
        exact ⟨rfl, below_drewN (below_a1 _ _) _⟩
end Go.Proofs.YtpgnappddddlpaaGreatDoor
namespace Go.Proofs.YtpgnappddddlpaaGreatDoor
open Go.RowKit

end Go.Proofs.YtpgnappddddlpaaGreatDoor
namespace Go.Proofs.YtpgnappddddlpaaGreatDoor
open Go.RowKit

/-- What a writer leaves: a new slice of the bytes ys, and whether there was something to write. -/
def PutRes (w : World) (ok : Bool) (ys : List Nat) (e : Ending) (w' : World) : Prop :=
  ∃ A c, e = .returned (.tuple #[.slice A ys.length c, .bool ok]) ∧ w'.ownsRow w.heap.size 5 1 (.slice A ys.length c) ys.length (vb ys) ∧ Below w.heap.size w w'

theorem PutRes.no (w : World) : PutRes w false [] (.returned (.tuple #[.slice none 0 0, .bool false])) w :=
  ⟨none, 0, rfl, World.ownsRow_nil _ _ _ _, Below.refl _ _⟩

/-- '[]byte{}' owns nothing. -/
theorem built_none (w : World) : (w.alloc (.cells #[] 5)).ownsRow w.heap.size 5 1 (.slice (some ⟨w.heap.size, 0, none⟩) 0 0) 0 [] :=
  World.ownsRow_lit w #[] 0 (Nat.le_refl _) (by unfold maxLen; omega) rfl

theorem own_form {w : World} {base e n : Nat} {v : Value} {xs : List Value} (h : w.ownsRow base e 1 v n xs) : ∃ A c, v = .slice A n c := by
  rcases h.2 with ⟨rfl, rfl⟩ | ⟨g, cap, _, rfl, _⟩
  · exact ⟨_, _, rfl⟩
  · exact ⟨_, _, rfl⟩

end Go.Proofs.YtpgnappddddlpaaGreatDoor
namespace Go.Proofs.YtpgnappddddlpaaGreatDoor
open Go.RowKit
set_option linter.unusedVariables false

def MadeMs (w : World) (rs : List Int) (e : Ending) (w' : World) : Prop :=
  ∃ A c, e = .returned (.slice A rs.length c) ∧ w'.ownsRow w.heap.size 3 1 (.slice A rs.length c) rs.length (vi rs) ∧ Below w.heap.size w w'
theorem mem_reads (w : World) (u : Value) : Reads (w.alloc (.cells #[u] 3)) (w.heap.size + 1) 1 (some ⟨w.heap.size, 0, none⟩) 1 [u] := by
  refine ⟨rfl, fun _ => ⟨_, rfl, by simp, fun j v hj => ?_⟩⟩
  match j, hj with
  | 0, hj => simp at hj; subst hj; simp [Addr.add]
theorem mem_one (x : Int) : ∀ u ∈ [Value.int .i64 x], u.oneCell' = true := by intro u hu; simp at hu; subst hu; rfl
theorem mem_snoc (xs : List Int) (x : Int) : vi (xs ++ [x]) = vi xs ++ [.int .i64 x] := by rw [vi_append]; rfl
theorem mem_ge {w : World} {lo e size n b : Nat} {v : Value} {xs : List Value} (h : w.ownsRow lo e size v n xs) (hb : b < lo) : v.ownBlock ≠ some b := fun e => by have := (h.lt b e).1; omega
end Go.Proofs.YtpgnappddddlpaaGreatDoor
namespace Go.Proofs.YtpgnappddddlpaaGreatDoor
open Go.RowKit
set_option linter.unusedVariables false

set_option maxRecDepth 10000 in
set_option maxHeartbeats 8000000 in
theorem implMembers (N : Int) (A : Option Addr) (n c : Nat) (xs : List Nat) (w : World) (hw : Wts w) (hr : Rd w A n xs) (hn : n ≤ 2097152) :
    Calls Tryz.prog 79 #[.agg #[.int .i64 N, .slice A n c]] w (MadeMs w (memsB N xs)) := by
  obtain ⟨i0, hi, hz0, hz1, hz2⟩ := info_parts Tryz.infoInt
  have HW := Lib.hid hw
  have HR := Lib.hid hr
  have HL := Lib.hid hr.len
  clear hr hw
  have C1 := Lib.hid (fun W (h : Below w.heap.size w W) => implSetOk N A n c xs W (HW.out.below h) (HR.out.below h) hn)
  have HB0 := Lib.hid (SBx.new w N A n c)
  unfold memsB
  cases hok : setB N xs with
  | false =>
    rw [hok] at C1
    rw [if_neg (by simp)]
    go_enter Tryz.func79, Tryz.ntmps79
    go_wp2_with fail
    refine (C1.out _ (below_a1 _ _)).mono ?_
    rintro e w1 ⟨rfl, hb1⟩
    go_wp2
    go_ret
    exact ⟨none, 0, rfl, World.ownsRow_nil _ _ _ _, s_chain (below_a1 _ _) hb1⟩
  | true =>
    rw [hok] at C1
    rw [if_pos rfl]
    have hdim := setB_dim hok
    obtain ⟨N, rfl⟩ : ∃ k : Nat, N = (k : Int) := ⟨N.toNat, by omega⟩
    have hN : N ≤ 150 := by omega
    have HLN : Hid (n = bytesN N) := Lib.hid (by have := hdim.2.2; rw [Int.toNat_natCast, HL.out] at this; exact this)
    rw [Int.toNat_natCast]
    clear hdim hok
    go_enter Tryz.func79, Tryz.ntmps79
    go_wp2_with fail
    refine (C1.out _ (below_a1 _ _)).mono ?_
    rintro e w1 ⟨rfl, hb1⟩
    have X0 := Lib.hid (HB0.out.below hb1)
    have HBW := Lib.hid (s_chain (below_a1 _ _) hb1)
    clear hb1 HB0
    obtain ⟨l0, c00, c01, f00, f01⟩ := X0.out.parts
    go_wp2
    go_loopw [3, 10] (fun o i wr => ∃ (k : Nat) (A1 : Option Addr) (c1 : Nat), k ≤ N ∧ i = .int .i64 (k : Int) ∧ o = .slice A1 (memsR xs k).length c1 ∧ Hid (wr.ownsRow (w.heap.size + 1) 3 1 (.slice A1 (memsR xs k).length c1) (memsR xs k).length (vi (memsR xs k))) ∧ Hid (SBx wr w.heap.size (N : Int) A n c) ∧ Hid (Below w.heap.size w wr)) (fun _ i _ => N - (intOf i).toNat)
    case atStart => exact ⟨0, none, 0, Nat.zero_le _, rfl, rfl, Lib.hid (World.ownsRow_nil _ _ _ _), X0, HBW⟩
    case round =>
      clear X0 HBW l0 c00 c01 f00 f01
      obtain ⟨k, A1, c1, hk, rfl, rfl, hown, hbx, hbel⟩ := hrel
      have hlen := mems_len xs k
      obtain ⟨l0, c00, c01, f00, f01⟩ := hbx.out.parts
      by_cases hlt : k < N
      · have hvl : k / 8 < n := by rw [HLN.out]; exact lt_bytes (by omega)
        have C2 := Lib.hid (marked_any (N : Int) A n c k xs wr (HW.out.below hbel.out) (HR.out.below hbel.out) hvl (by omega))
        have HST := Lib.hid (mems_step xs k)
        clear hvl
        cases hbt : bitN xs k with
        | true =>
          rw [hbt] at C2 HST
          rw [if_pos rfl] at HST
          obtain ⟨ns, hns⟩ : ∃ ns, Hid (memsR xs (k + 1) = ns) := ⟨_, Lib.hid rfl⟩
          rw [hns.out] at HST
          generalize memsR xs k = ms at hown hlen HST ⊢
          clear hbt
          go_wp2_with fail
          refine C2.out.mono ?_
          rintro e w2 ⟨rfl, hb2⟩
          have O2 := Lib.hid (own_below hown.out hb2)
          have B2 := Lib.hid (s_chain hbel.out hb2)
          have Y2 := Lib.hid (hbx.out.below hb2)
          clear hb2 l0 c00 c01 f00 f01
          obtain ⟨l0, c00, c01, f00, f01⟩ := Y2.out.parts
          go_wp2_with (at_builtin; refine wpList_append_any _ rfl (.tmp 16) (.tmp 18) _ rfl (w.heap.size + 1) 3 i0 _ 1 8 Tryz.underlying27 hi hz0 hz1 hz2 rfl (by omega) (.slice A1 ms.length c1) ms.length (vi ms) rfl (O2.out.alloc _) (w2.heap.size + 1) (some ⟨w2.heap.size, 0, none⟩) 1 1 [.int .i64 (k : Int)] rfl (mem_reads _ _) (mem_one _) (by simp only [maxLen]; omega) (by omega) (by simp; omega) ?_)
          intro v4 w4 hown4 hg4 _
          obtain ⟨A4, c4, rfl⟩ := own_form hown4
          have hle : ms.length + 1 = ns.length := by rw [HST.out]; simp
          have HO4 : Hid (w4.ownsRow (w.heap.size + 1) 3 1 (.slice A4 ns.length c4) ns.length (vi ns)) := Lib.hid (by rw [HST.out, mem_snoc, List.length_append]; exact hown4)
          have HY4 := Lib.hid ((Y2.out.below (below_a1 _ (.cells #[.int .i64 (k : Int)] 3))).grown hg4 (mem_ge O2.out (by omega)))
          have HB4 : Hid (Below w.heap.size w w4) := Lib.hid ((B2.out.alloc B2.out.size _).grown hg4 (by have := B2.out.size; simp; omega) (fun k hk => by have := (O2.out.lt k hk).1; omega))
          clear hown4 hg4 O2 B2 Y2 l0 c00 c01 f00 f01
          rw [hle]
          go_wp2
          go_roundw
          case rel => exact ⟨k + 1, A4, c4, by omega, by go_num, by rw [hns.out], Lib.hid (by rw [hns.out]; exact HO4.out), HY4, HB4⟩
          case measure => simp [intOf]; omega
        | false =>
          rw [hbt] at C2 HST
          rw [if_neg (by simp)] at HST
          go_wp2_with fail
          refine C2.out.mono ?_
          rintro e w2 ⟨rfl, hb2⟩
          have O2 := Lib.hid (own_below hown.out hb2)
          have B2 := Lib.hid (s_chain hbel.out hb2)
          have Y2 := Lib.hid (hbx.out.below hb2)
          clear hb2 l0 c00 c01 f00 f01
          go_wp2
          go_roundw
          case rel => exact ⟨k + 1, A1, c1, by omega, by go_num, by rw [HST.out], Lib.hid (by rw [HST.out]; exact O2.out), Y2, B2⟩
          case measure => simp [intOf]; omega
      · obtain rfl : k = N := by omega
        go_wp2
        go_ret
        exact ⟨A1, c1, rfl, own_monoG (lo' := w.heap.size) hown.out (by omega), hbel.out⟩
end Go.Proofs.YtpgnappddddlpaaGreatDoor
namespace Go.Proofs.YtpgnappddddlpaaGreatDoor
open Go.RowKit
set_option linter.unusedVariables false

theorem badValue (x : Int) (w : World) : Calls Tryz.prog 77 #[.int .i64 x] w fun e w' => e = .returned (.bool (!valB x)) ∧ w = w' := by
  have C := Lib.hid (fun W => implIsValue x W)
  generalize valB x = b at C ⊢
  go_enter Tryz.func77, Tryz.ntmps77
  go_wp2_with fail
  refine (C.out _).mono ?_
  rintro e w1 ⟨rfl, rfl⟩
  go_wp2
  go_ret
  exact ⟨rfl, rfl⟩
theorem vals_no {xs : List Int} {k : Nat} {x : Int} (h : xs[k]? = some x) (hx : valB x = false) : valsB xs = false := by
  unfold valsB
  rw [List.all_eq_false]
  exact ⟨x, List.mem_of_getElem? h, by simp [hx]⟩
theorem vals_step {xs : List Int} {k : Nat} {x : Int} (h : xs[k]? = some x) (ha : ∀ y ∈ xs.take k, valB y = true) (hx : valB x = true) : ∀ y ∈ xs.take (k + 1), valB y = true := by
  rw [g_take xs k x h]
  intro y hy
  rcases List.mem_append.1 hy with hy | hy
  · exact ha y hy
  · rw [List.mem_singleton.1 hy]; exact hx
theorem vals_yes {xs : List Int} (ha : ∀ y ∈ xs.take xs.length, valB y = true) : valsB xs = true := by
  rw [List.take_length] at ha
  unfold valsB
  rw [List.all_eq_true]
  exact ha
set_option maxRecDepth 10000 in
set_option maxHeartbeats 1000000 in
theorem indexBad (A : Option Addr) (n c : Nat) (xs : List Int) (w : World) (hr : SlI w A n xs) (hn : n ≤ 2097152) :
    Calls Tryz.prog 108 #[.slice A n c, .func (.func 77) #[] #[]] w fun e w' => ∃ z : Int, e = .returned (.int .i64 z) ∧ decide (0 ≤ z) = !valsB xs ∧ w = w' := by
  have HR := Lib.hid hr
  have HL := Lib.hid hr.len
  clear hr
  have CB := Lib.hid (fun x W => badValue x W)
  go_enter Tryz.func108, Tryz.ntmps108
  go_wp2
  go_loopw [8] (fun i wr => ∃ k : Nat, k ≤ n ∧ i = .int .i64 (k : Int) ∧ Hid (∀ y ∈ xs.take k, valB y = true) ∧ wr = w) (fun i _ => n - (intOf i).toNat)
  case atStart => exact ⟨0, Nat.zero_le _, rfl, Lib.hid (by simp), by first | rfl | trivial⟩
  case round =>
    obtain ⟨k, hk, rfl, hok, rfl⟩ := hrel
    by_cases hlt : k < n
    · obtain ⟨b, off, x, rfl, hbw, hx, c0⟩ := HR.out.at_ hlt
      have C := Lib.hid (fun W => CB.out x W)
      cases hv : valB x with
      | true =>
        rw [hv] at C
        have HK := Lib.hid (vals_step hx.out hok.out hv)
        clear hv hok
        go_wp2_with fail
        refine (C.out _).mono ?_
        rintro e w1 ⟨rfl, rfl⟩
        go_wp2
        go_roundw
        case rel => exact ⟨k + 1, by omega, by go_num, HK, by first | rfl | trivial⟩
        case measure => simp [intOf]; omega
      | false =>
        rw [hv] at C
        have HK := Lib.hid (vals_no hx.out hv)
        clear hv hok
        go_wp2_with fail
        refine (C.out _).mono ?_
        rintro e w1 ⟨rfl, rfl⟩
        go_wp2
        go_ret
        exact ⟨_, rfl, by rw [HK.out]; simp, rfl⟩
    · obtain rfl : k = n := by omega
      have HK := Lib.hid (vals_yes (xs := xs) (by rw [HL.out]; exact hok.out))
      go_wp2
      go_ret
      exact ⟨_, rfl, by rw [HK.out]; simp, rfl⟩
theorem containsBad (A : Option Addr) (n c : Nat) (xs : List Int) (w : World) (hr : SlI w A n xs) (hn : n ≤ 2097152) :
    Calls Tryz.prog 76 #[.slice A n c, .func (.func 77) #[] #[]] w fun e w' => e = .returned (.bool (!valsB xs)) ∧ w = w' := by
  have C := Lib.hid (indexBad A n c xs w hr hn)
  clear hr
  generalize valsB xs = b at C ⊢
  go_enter Tryz.func76, Tryz.ntmps76
  go_wp2_with fail
  refine C.out.mono ?_
  rintro e w1 ⟨z, rfl, hz, rfl⟩
  go_wp2
  go_ret
  exact ⟨rfl, rfl⟩
theorem areValues_any (A : Option Addr) (n c : Nat) (xs : List Int) (cnt : Int) (w : World) (hr : SlI w A n xs) (hn : n ≤ 2097152) :
    Calls Tryz.prog 59 #[.slice A n c, .int .i64 cnt] w fun e w' => e = .returned (.bool (decide ((n : Int) = cnt) && valsB xs)) ∧ w = w' := by
  have C := Lib.hid (containsBad A n c xs w hr hn)
  clear hr
  generalize valsB xs = b at C ⊢
  by_cases h : (n : Int) = cnt
  · subst h
    have hd : (decide ((n : Int) = (n : Int)) && b) = b := by simp
    rw [hd]
    clear hd
    have hb : (!!b) = b := by simp
    go_enter Tryz.func59, Tryz.ntmps59
    go_wp2_with fail
    refine C.out.mono ?_
    rintro e w1 ⟨rfl, rfl⟩
    go_wp2
    go_ret
    exact ⟨g_bool (by simp), rfl⟩
  · have hd : (decide ((n : Int) = cnt) && b) = false := by simp [h]
    rw [hd]
    clear hd C
    have hb : (decide ((n : Int) = cnt)) = false := by simp [h]
    go_enter Tryz.func59, Tryz.ntmps59
    go_wp2
    go_ret
    exact ⟨rfl, rfl⟩
end Go.Proofs.YtpgnappddddlpaaGreatDoor
namespace Go.Proofs.YtpgnappddddlpaaGreatDoor
open Go.RowKit
set_option linter.unusedVariables false

theorem hasNone_any (N : Int) (A : Option Addr) (n c : Nat) (xs : List Nat) (w : World) (hw : Wts w) (hr : Rd w A n xs) (hn : n ≤ 2097152) :
    Calls Tryz.prog 60 #[.agg #[.int .i64 N, .slice A n c]] w (GTell w (decide ((memsB N xs).length = 0))) := by
  have C := Lib.hid (fun W (h : Below w.heap.size w W) => implMembers N A n c xs W (hw.below h) (hr.below h) hn)
  unfold MadeMs at C
  generalize memsB N xs = rs at C ⊢
  clear hr hw
  go_enter Tryz.func60, Tryz.ntmps60
  go_wp2_with fail
  refine (C.out _ (below_a1 _ _)).mono ?_
  rintro e w1 ⟨A1, c1, rfl, ho, hb⟩
  have H1 := Lib.hid (g_chain (below_a1 w (.cells #[.int .i64 N, .slice A n c] 37)) hb)
  clear ho hb
  go_wp2
  go_ret
  exact ⟨g_bool (by rw [Bool.eq_iff_iff]; simp), H1.out⟩
theorem hasVertex_any (N : Int) (A : Option Addr) (n c : Nat) (v : Int) (w : World) :
    Calls Tryz.prog 33 #[.agg #[.int .i64 N, .slice A n c], .int .i64 v] w (GTell w (decide (0 ≤ v ∧ v < N))) := by
  by_cases h0 : 0 ≤ v
  · by_cases h1 : v < N
    · have hd : decide (0 ≤ v ∧ v < N) = true := by simp [h0, h1]
      rw [hd]
      go_enter Tryz.func33, Tryz.ntmps33
      go_wp2
      go_ret
      exact ⟨rfl, below_a1 _ _⟩
    · have hd : decide (0 ≤ v ∧ v < N) = false := by simp [h1]
      rw [hd]
      have h2 : N ≤ v := by omega
      go_enter Tryz.func33, Tryz.ntmps33
      go_wp2
      go_ret
      exact ⟨rfl, below_a1 _ _⟩
  · have hd : decide (0 ≤ v ∧ v < N) = false := by simp [h0]
    rw [hd]
    have h2 : v < 0 := by omega
    go_enter Tryz.func33, Tryz.ntmps33
    go_wp2
    go_ret
    exact ⟨rfl, below_a1 _ _⟩
theorem isSetOf_any (N : Int) (A : Option Addr) (n c : Nat) (M : Int) (B : Option Addr) (m d : Nat) (xs : List Nat) (w : World) (hw : Wts w) (hr : Rd w B m xs) (hn : m ≤ 2097152) :
    Calls Tryz.prog 34 #[.agg #[.int .i64 N, .slice A n c], .agg #[.int .i64 M, .slice B m d]] w (GTell w (setB M xs && decide (M = N))) := by
  have C := Lib.hid (fun W (h : Below w.heap.size w W) => implSetOk M B m d xs W (hw.below h) (hr.below h) hn)
  clear hr hw
  have B0 := Lib.hid ((Blk.new w #[.int .i64 N, .slice A n c] 44).alloc (.cells #[.int .i64 M, .slice B m d] 37))
  have B1 := Lib.hid (Blk.new (w.alloc (.cells #[.int .i64 N, .slice A n c] 44)) #[.int .i64 M, .slice B m d] 37)
  rw [World.size_alloc] at B1
  cases hs : setB M xs with
  | false =>
    rw [hs] at C
    rw [Bool.false_and]
    clear hs
    go_enter Tryz.func34, Tryz.ntmps34
    go_wp2_with fail
    refine (C.out _ (below_a2 _ _ _)).mono ?_
    rintro e w1 ⟨rfl, hb⟩
    have H1 := Lib.hid (g_chain (below_a2 w (.cells #[.int .i64 N, .slice A n c] 44) (.cells #[.int .i64 M, .slice B m d] 37)) hb)
    clear hb
    go_wp2
    go_ret
    exact ⟨rfl, H1.out⟩
  | true =>
    rw [hs] at C
    rw [Bool.true_and]
    clear hs
    go_enter Tryz.func34, Tryz.ntmps34
    go_wp2_with fail
    refine (C.out _ (below_a2 _ _ _)).mono ?_
    rintro e w1 ⟨rfl, hb⟩
    have H1 := Lib.hid (g_chain (below_a2 w (.cells #[.int .i64 N, .slice A n c] 44) (.cells #[.int .i64 M, .slice B m d] 37)) hb)
    have x0 := (B0.out.below hb).cell (i := 0) rfl
    have x1 := (B1.out.below hb).cell (i := 0) rfl
    clear hb
    go_wp2
    go_ret
    exact ⟨rfl, H1.out⟩
theorem otherEnd_any (e : GE) (v : Int) (w : World) :
    Calls Tryz.prog 66 #[.agg #[.int .i64 e.f, .int .i64 e.t, .int .i64 e.w], .int .i64 v] w (GNum w (otherE e v)) := by
  unfold otherE
  by_cases h : e.f = v
  · rw [if_pos h]
    go_enter Tryz.func66, Tryz.ntmps66
    go_wp2
    go_ret
    exact ⟨rfl, below_a1 _ _⟩
  · rw [if_neg h]
    go_enter Tryz.func66, Tryz.ntmps66
    go_wp2
    go_ret
    exact ⟨rfl, below_a1 _ _⟩
end Go.Proofs.YtpgnappddddlpaaGreatDoor
namespace Go.Proofs.YtpgnappddddlpaaGreatDoor
open Go.RowKit
set_option linter.unusedVariables false

set_option maxRecDepth 10000 in
set_option maxHeartbeats 1000000 in
theorem wake_now (w0 w : World) (b : Nat) (p s it : Int) (dn : Bool) (A : Option Addr) (n c : Nat) (B : Option Addr) (m d : Nat) (nn : Int) (C : Option Addr) (j k : Nat) (ND : Int) (D : Option Addr) (q e : Nat) (vs ev : List Int) (nx nw : List Nat) (N v u : Nat) (hw : Wts w0) (hst : USt w0 w b p s it dn A n c B m d nn C j k D q e vs ev nx nw) (hs : ∀ x ∈ nw, x < 256) (hu : u / 8 < q) (hb : u ≤ 1048576) (hv : v < u) :
    Calls Tryz.prog 65 #[.pointer (some ⟨b, 0, none⟩), .agg #[.int .i64 ND, .slice D q e], .int .i64 (v : Int), .int .i64 (u : Int)] w fun r w' => r = .returned (.tuple #[]) ∧ USt w0 w' b p s it dn A n c B m d nn C j k D q e vs ev nx (addV nw u) ∧ w.grownBy w' (Value.slice D q e).ownBlock := by
  have ST := Lib.hid (hst.below (below_a1 w (.cells #[.int .i64 ND, .slice D q e] 37)))
  have C := Lib.hid (fun W (h : USt w0 W b p s it dn A n c B m d nn C j k D q e vs ev nx nw) => mark_anyS ND D q e w0.heap.size u nw W (hw.below h.h) h.d hs hu hb)
  unfold MarkedS at C
  have hvu : (v : Int) < (u : Int) := by omega
  clear hst hw
  go_enter Tryz.func65, Tryz.ntmps65
  go_wp2_with fail
  refine (C.out _ ST.out).mono ?_
  rintro r w1 ⟨rfl, ho, hg⟩
  have S1 := Lib.hid (ST.out.gotD ho hg)
  have G1 := Lib.hid (grownBy_trans (grownBy_of_below (below_a1 w (.cells #[.int .i64 ND, .slice D q e] 37)) _) hg)
  clear ho hg
  go_wp2
  go_end0
  exact ⟨rfl, S1.out, G1.out⟩
set_option maxRecDepth 10000 in
set_option maxHeartbeats 1000000 in
theorem wake_next (w0 w : World) (b : Nat) (p s it : Int) (dn : Bool) (A : Option Addr) (n c : Nat) (B : Option Addr) (m d : Nat) (nn : Int) (C : Option Addr) (j k : Nat) (ND : Int) (D : Option Addr) (q e : Nat) (vs ev : List Int) (nx nw : List Nat) (N v u : Nat) (hw : Wts w0) (hst : USt w0 w b p s it dn A n c B m d nn C j k D q e vs ev nx nw) (hs : ∀ x ∈ nx, x < 256) (hu : u / 8 < j) (hb : u ≤ 1048576) (hv : ¬ v < u) :
    Calls Tryz.prog 65 #[.pointer (some ⟨b, 0, none⟩), .agg #[.int .i64 ND, .slice D q e], .int .i64 (v : Int), .int .i64 (u : Int)] w fun r w' => r = .returned (.tuple #[]) ∧ USt w0 w' b p s it dn A n c B m d nn C j k D q e vs ev (addV nx u) nw ∧ w.grownBy w' (Value.slice C j k).ownBlock := by
  have ST := Lib.hid (hst.below (below_a1 w (.cells #[.int .i64 ND, .slice D q e] 37)))
  have C := Lib.hid (fun W (h : USt w0 W b p s it dn A n c B m d nn C j k D q e vs ev nx nw) => mark_anyS nn C j k w0.heap.size u nx W (hw.below h.h) h.r.x hs hu hb)
  unfold MarkedS at C
  have hvu : (u : Int) ≤ (v : Int) := by omega
  have hvu2 : ¬ (v : Int) < (u : Int) := by omega
  have c6 := ST.out.r.bx.cell (i := 6) rfl
  have c7 := ST.out.r.bx.cell (i := 7) rfl
  have hbl := ST.out.r.bx.lt
  clear hst hw
  go_enter Tryz.func65, Tryz.ntmps65
  go_wp2_with fail
  refine (C.out _ ST.out).mono ?_
  rintro r w1 ⟨rfl, ho, hg⟩
  have S1 := Lib.hid (ST.out.gotX ho hg)
  have G1 := Lib.hid (grownBy_trans (grownBy_of_below (below_a1 w (.cells #[.int .i64 ND, .slice D q e] 37)) _) hg)
  clear ho hg
  go_wp2
  go_end0
  exact ⟨rfl, S1.out, G1.out⟩
set_option maxRecDepth 20000 in
set_option maxHeartbeats 8000000 in
theorem implUpdRun (w0 w : World) (b : Nat) (p s it : Int) (dn : Bool) (A : Option Addr) (n c : Nat) (B : Option Addr) (m d : Nat) (nn : Int) (C : Option Addr) (j k : Nat) (ND : Int) (D : Option Addr) (q e : Nat) (vs ev : List Int) (nx nw : List Nat) (N : Nat) (AG : Option Addr) (l cG : Nat) (G : List GE) (v : Nat) (hw : Wts w0) (hg : SlG w0 AG l G) (hG : graphB (N : Int) G = true) (hp : 1 ≤ p ∧ p ≤ 4) (hgood : Good p N G ⟨vs, ev, nx, nw⟩) (hv : v < N) (hst : USt w0 w b p s it dn A n c B m d nn C j k D q e vs ev nx nw) :
    Calls Tryz.prog 37 #[.pointer (some ⟨b, 0, none⟩), .agg #[.int .i64 (N : Int), .slice AG l cG], .agg #[.int .i64 ND, .slice D q e], .int .i64 (v : Int)] w fun r w' => r = .returned (.tuple #[]) ∧ USt w0 w' b p s it dn A n c B m d nn C j k D q e (vstep p (N : Int) G ⟨vs, ev, nx, nw⟩ v).vs (vstep p (N : Int) G ⟨vs, ev, nx, nw⟩ v).ev (vstep p (N : Int) G ⟨vs, ev, nx, nw⟩ v).nx (vstep p (N : Int) G ⟨vs, ev, nx, nw⟩ v).nw ∧ OnlyB (updBlk A n c B m d C j k D q e) w w' := by
  obtain ⟨hnl, hml, hjl⟩ := hst.r.nl
  have hql : nw.length = q := by have h9 := hst.d.1; rw [vb_length] at h9; omega
  have hvl := hgood.vl
  have hel := hgood.el
  simp only at hvl hel
  have hgl := hg.len
  have hG3 := graphB_iff hG
  have hj := (setB_dim hgood.nx).2.2
  have hq := (setB_dim hgood.nw).2.2
  simp only [Int.toNat_natCast] at hj hq
  obtain rfl : n = N := by omega
  obtain rfl : m = l := by omega
  subst hgl
  have hup := upd_good hp hG hgood hv
  have hy := upd_yes hup
  simp only at hup hy
  obtain ⟨x, hx⟩ : ∃ x, x = vs.getD v 0 := ⟨_, rfl⟩
  rw [← hx] at hup hy
  have HIL : Hid ((viewsT G ev (v : Int) G.length).length = (idxT G (v : Int) G.length).length) := Lib.hid (by unfold viewsT; rw [List.length_map])
  have hil := idx_len G (v : Int) G.length
  have CV := Lib.hid (fun W (h : USt w0 W b p s it dn A n c B G.length d nn C j k D q e vs ev nx nw) => implViewsOf b (n : Int) AG G.length cG G (v : Int) p s it dn A n c B G.length d nn C j k ev W h.r.bx (hg.below h.h) (SlI.of_own h.r.e) (Nat.le_refl _) (by omega))
  have CU := Lib.hid (fun W A1 c1 (h : SlV W A1 (idxT G (v : Int) G.length).length (viewsT G ev (v : Int) G.length)) => implUpdate p s (v : Int) x A1 (idxT G (v : Int) G.length).length c1 (viewsT G ev (v : Int) G.length) W h (by omega))
  rw [hy.1, hy.2] at CU
  have HNV : Hid (newAt p G ⟨vs, ev, nx, nw⟩ v = newVal p x (viewsT G ev (v : Int) G.length)) := Lib.hid (by unfold newAt; rw [hx])
  have HNE : Hid (∀ i, edgeNew p G ⟨vs, ev, nx, nw⟩ v i = newEdge p (newVal p x (viewsT G ev (v : Int) G.length)) (outsN (viewsT G ev (v : Int) G.length)) (viewAt G ev (v : Int) i)) := Lib.hid (fun i => by unfold edgeNew; rw [HNV.out])
  have HVW : Hid (∀ r : Nat, (viewsT G ev (v : Int) G.length)[r]? = ((idxT G (v : Int) G.length)[r]?).map (viewAt G ev (v : Int))) := Lib.hid (fun r => by unfold viewsT; rw [List.getElem?_map])
  unfold MadeU at CU
  simp only [List.length_map, HIL.out] at CU
  obtain ⟨nv, hnv⟩ : ∃ nv, nv = newVal p x (viewsT G ev (v : Int) G.length) := ⟨_, rfl⟩
  rw [← hnv] at CU HNV HNE
  obtain ⟨ys, hys⟩ : ∃ ys, ys = (viewsT G ev (v : Int) G.length).map (newEdge p nv (outsN (viewsT G ev (v : Int) G.length))) := ⟨_, rfl⟩
  rw [← hys] at CU
  have HYS : Hid (∀ r i : Nat, (idxT G (v : Int) G.length)[r]? = some i → ys[r]? = some (edgeNew p G ⟨vs, ev, nx, nw⟩ v i)) := Lib.hid (fun r i hr => by rw [hys, List.getElem?_map, HVW.out, hr, HNE.out]; rfl)
  have HX : Hid (vs[v]? = some x) := Lib.hid (by rw [hx, List.getD_eq_getElem?_getD, List.getElem?_eq_getElem (by omega)]; rfl)
  have HGD := Lib.hid hgood
  have HGG := Lib.hid hG
  have HSG := Lib.hid hg
  have HWW := Lib.hid hw
  have HJ := Lib.hid hj
  have HQ := Lib.hid hq
  have HID := Lib.hid (idx_nodup G (v : Int) G.length)
  have HIM : Hid (∀ i, i ∈ idxT G (v : Int) G.length → i < G.length) := Lib.hid (fun i hi => (idx_mem.1 hi).1)
  have HTK := Lib.hid (fun k => atK_ok (p := p) hG v (edgeNew p G ⟨vs, ev, nx, nw⟩ v) ⟨vs.set v nv, ev, nx, nw⟩ hel hgood.nx hgood.nw k)
  have HVS : Hid (vstep p (n : Int) G ⟨vs, ev, nx, nw⟩ v = atK (n : Int) G v (edgeNew p G ⟨vs, ev, nx, nw⟩ v) ⟨vs.set v nv, ev, nx, nw⟩ G.length (idxT G (v : Int) G.length).length) := Lib.hid (by rw [atK_full]; unfold vstep; rw [HNV.out])
  have HT0 : Hid (atK (n : Int) G v (edgeNew p G ⟨vs, ev, nx, nw⟩ v) ⟨vs.set v nv, ev, nx, nw⟩ G.length 0 = ⟨vs.set v nv, ev, nx, nw⟩) := Lib.hid rfl
  have HST' := Lib.hid (fun k i (h : (idxT G (v : Int) G.length)[k]? = some i) => atK_step (N := (n : Int)) (f := edgeNew p G ⟨vs, ev, nx, nw⟩ v) (S := ⟨vs.set v nv, ev, nx, nw⟩) h)
  have hG400 := hG3.2.2.1
  have hN150 := hG3.2.1
  clear hx hup hy hnv hys hgood hG hg hw hj hq hG3 HIL hvl
  obtain ⟨oA, oB, oC, oD⟩ := hst.olds
  have OA := Lib.hid oA
  have OB := Lib.hid oB
  have OC := Lib.hid oC
  have OD := Lib.hid oD
  clear oA oB oC oD
  obtain ⟨gA, rfl⟩ := g_own_at hst.r.v (by omega)
  have S0 := Lib.hid (hst.below (below_a2 w (.cells #[.int .i64 (n : Int), .slice AG G.length cG] 44) (.cells #[.int .i64 ND, .slice D q e] 37)))
  have O0 := Lib.hid ((OnlyB.refl (updBlk (some ⟨gA, 0, none⟩) n c B G.length d C j k D q e) w).below (below_a2 w (.cells #[.int .i64 (n : Int), .slice AG G.length cG] 44) (.cells #[.int .i64 ND, .slice D q e] 37)))
  have BG := Lib.hid ((Blk.new w #[.int .i64 (n : Int), .slice AG G.length cG] 44).alloc (.cells #[.int .i64 ND, .slice D q e] 37))
  have BN := Lib.hid (Blk.new (w.alloc (.cells #[.int .i64 (n : Int), .slice AG G.length cG] 44)) #[.int .i64 ND, .slice D q e] 37)
  rw [World.size_alloc] at BN
  have HS0 := Lib.hid hst.h.size
  clear hst
  go_enter Tryz.func37, Tryz.ntmps37
  go_wp2_with fail
  refine (CV.out _ S0.out).mono ?_
  rintro r w1 ⟨A1, c1, A2, c2, rfl, hov, hoi, hb⟩
  have S1 := Lib.hid (S0.out.below hb)
  have O1 := Lib.hid (O0.out.below hb)
  have BG1 := Lib.hid (BG.out.below hb)
  have BN1 := Lib.hid (BN.out.below hb)
  have HZ1 : Hid (w.heap.size + 2 ≤ w1.heap.size) := Lib.hid (by have := hb.size; simpa using this)
  have OV1 := Lib.hid (own_monoG (lo' := w.heap.size) hov (by simp; omega))
  have OI1 := Lib.hid (own_monoG (lo' := w.heap.size) hoi (by simp; omega))
  clear hb hov hoi S0 O0 BG BN CV

  have r0 := S1.out.r.bx.cell (i := 0) rfl
  have r1 := S1.out.r.bx.cell (i := 1) rfl
  have r4 := S1.out.r.bx.cell (i := 4) rfl
  have rl := S1.out.r.bx.lt
  have xv : w1.cell? ⟨gA, v, none⟩ = some (.int .i64 x) := S1.out.r.v.cellAt v (by omega) |>.trans (by rw [vi_get, HX.out]; rfl)
  have HLV := Lib.hid (SlV.of_own OV1.out (by unfold viewsT; rw [List.length_map]))
  have HLVd := Lib.hid (HLV.out.below (Below.refl _ w1).drew)
  go_upto_region 2 with fail
  go_region_law (go_simp; go_at_call 64; with_reducible refine (CU.out _ _ _ (by first | exact HLV.out | exact HLVd.out)).mono ?_; rintro r w2 ⟨A3, c3, rfl, hoy, hb⟩)
  all_goals
    have HB2 : Hid (Below w1.heap.size w1 w2) := Lib.hid (by first | exact hb | exact g_chain (Below.refl _ w1).drew hb)
    have HZ2 := Lib.hid HB2.out.size
    have S2 := Lib.hid (S1.out.below HB2.out)
    have O2 := Lib.hid (O1.out.below HB2.out)
    have AX2 : Hid (UAux w.heap.size w2 w.heap.size (w.heap.size + 1) #[.int .i64 (n : Int), .slice AG G.length cG] #[.int .i64 ND, .slice D q e] 44 37 A1 c1 A2 c2 A3 c3 (viewsT G ev (v : Int) G.length) (idxT G (v : Int) G.length) ys) := Lib.hid ⟨BG1.out.below HB2.out, BN1.out.below HB2.out, Nat.le_refl _, by omega, own_below OV1.out HB2.out, own_below OI1.out HB2.out, own_monoG hoy (by have h1 := HZ1.out; first | (show w.heap.size ≤ w1.heap.size; omega) | omega)⟩
    clear hb hoy HLV HLVd r0 r1 r4 rl xv S1 BG1 BN1 OV1 OI1 HB2 CU
    have fz := S2.out.r.v.frozenAt v
    have xv : w2.cell? ⟨gA, v, none⟩ = some (.int .i64 x) := (S2.out.r.v.cellAt v (by omega)).trans (by rw [vi_get, HX.out]; rfl)
    have xl := (S2.out.r.v.lt gA rfl).2
    have r4 := S2.out.r.bx.cell (i := 4) rfl
    have rl := S2.out.r.bx.lt
    have S3 := Lib.hid (S2.out.gotV v nv)
    have AX3 := Lib.hid (AX2.out.grown (S2.out.r.v.stored v (.int .i64 nv)).2 (fun g hg => OA.out g hg))
    have O3 := Lib.hid (O2.out.grown (S2.out.r.v.stored v (.int .i64 nv)).2 (fun i hi => .inl hi))
    clear S2 AX2 O1 O2
    go_wp2
    go_loopw [47] (fun i wr => ∃ r : Nat, r ≤ (idxT G (v : Int) G.length).length ∧ i = .int .i64 (r : Int) ∧ Hid (USt w0 wr b p s it dn (some ⟨gA, 0, none⟩) n c B G.length d nn C j k D q e (atK (n : Int) G v (edgeNew p G ⟨vs, ev, nx, nw⟩ v) ⟨vs.set v nv, ev, nx, nw⟩ G.length r).vs (atK (n : Int) G v (edgeNew p G ⟨vs, ev, nx, nw⟩ v) ⟨vs.set v nv, ev, nx, nw⟩ G.length r).ev (atK (n : Int) G v (edgeNew p G ⟨vs, ev, nx, nw⟩ v) ⟨vs.set v nv, ev, nx, nw⟩ G.length r).nx (atK (n : Int) G v (edgeNew p G ⟨vs, ev, nx, nw⟩ v) ⟨vs.set v nv, ev, nx, nw⟩ G.length r).nw) ∧ Hid (UAux w.heap.size wr w.heap.size (w.heap.size + 1) #[.int .i64 (n : Int), .slice AG G.length cG] #[.int .i64 ND, .slice D q e] 44 37 A1 c1 A2 c2 A3 c3 (viewsT G ev (v : Int) G.length) (idxT G (v : Int) G.length) ys) ∧ Hid (OnlyB (updBlk (some ⟨gA, 0, none⟩) n c B G.length d C j k D q e) w wr)) (fun i _ => (idxT G (v : Int) G.length).length - (intOf i).toNat)
    case atStart => exact ⟨0, Nat.zero_le _, rfl, by rw [HT0.out]; exact S3, AX3, O3⟩
    case round =>
      clear S3 AX3 O3 fz xv xl r4 rl HT0
      obtain ⟨r, hr, rfl, hst, hax, hon⟩ := hrel
      have HS4 := Lib.hid (HTK.out r)
      obtain ⟨T, HT⟩ : ∃ T, Hid (atK (n : Int) G v (edgeNew p G ⟨vs, ev, nx, nw⟩ v) ⟨vs.set v nv, ev, nx, nw⟩ G.length r = T) := ⟨_, Lib.hid rfl⟩
      obtain ⟨cvs, cev, cnx, cnw⟩ := T
      rw [HT.out] at hst HS4
      simp only at hst
      have hol := hst.out.olds
      by_cases hlt : r < (idxT G (v : Int) G.length).length
      · obtain ⟨i, hri⟩ : ∃ i, (idxT G (v : Int) G.length)[r]? = some i := ⟨_, List.getElem?_eq_getElem hlt⟩
        have hilt := HIM.out i (List.mem_of_getElem? hri)
        obtain ⟨xi, hxi⟩ : ∃ xi, ev[i]? = some xi := ⟨_, List.getElem?_eq_getElem (by omega)⟩
        have HSTP := Lib.hid (HST'.out r i hri)
        have HCE : Hid (cev.getD i 0 = xi) := Lib.hid (by
          have h1 := HS4.out.ev i
          rw [if_neg (not_before HID.out hri)] at h1
          simp only at h1
          rw [h1, List.getD_eq_getElem?_getD, hxi]
          rfl)
        have hyr := HYS.out r i hri
        rw [HT.out] at HSTP
        unfold estep at HSTP
        simp only [HCE.out] at HSTP
        obtain ⟨y, hy⟩ : ∃ y, y = edgeNew p G ⟨vs, ev, nx, nw⟩ v i := ⟨_, rfl⟩
        rw [← hy] at hyr HSTP
        obtain ⟨g2, rfl⟩ := g_own_at hax.out.oi (by omega)
        obtain ⟨g3, rfl⟩ := g_own_at hax.out.oy (by omega)
        have a2 : wr.cell? ⟨g2, r, none⟩ = some (.int .i64 (i : Int)) := (hax.out.oi.cellAt r (by omega)).trans (by rw [vi_get, zI_get hri]; rfl)
        have a3 : wr.cell? ⟨g3, r, none⟩ = some (.int .i64 y) := (hax.out.oy.cellAt r (by omega)).trans (by rw [vi_get, hyr]; rfl)
        obtain ⟨g1, o1, vw, rfl, hg1, hvw, b0, b1', b2, b3⟩ := (SlV.of_own hax.out.ov (by unfold viewsT; rw [List.length_map])).at_ hlt
        have hvv : vw.v = xi := by
          have h1 := hvw.out
          rw [HVW.out, hri] at h1
          have h2 : viewAt G ev (v : Int) i = vw := by simpa using h1
          rw [← h2]
          unfold viewAt viewE
          simp only
          rw [List.getD_eq_getElem?_getD, hxi]
          rfl
        rw [hvv] at b3
        have HE := Lib.hid hxi
        have HYR := Lib.hid hyr
        have HSN := Lib.hid HS4.out.nw
        have HSX := Lib.hid HS4.out.nx
        have HSW := Lib.hid (HS4.out.nws HGD.out.nws)
        have HSY := Lib.hid (HS4.out.nxs HGD.out.nxs)
        simp only at HSN HSX HSW HSY
        clear hy hyr hvw b0 b1' b2 hxi hvv HS4 HT
        by_cases hyx : y = xi
        · have hd : (y != xi) = false := by simp [hyx]
          rw [if_pos hyx] at HSTP
          have S5 := Lib.hid hst.out
          have AX5 := Lib.hid hax.out
          clear hst hax hyx
          go_wp2
          go_quiet (fail)
          go_wp2
          go_roundw
          case rel => exact ⟨r + 1, by omega, by go_num, by rw [HSTP.out]; first | exact S5 | exact Lib.hid (S5.out.drewN _), by first | exact AX5 | exact Lib.hid (AX5.out.drewN _), by first | exact hon | exact Lib.hid (hon.out.below (below_drewN (Below.refl _ _) _))⟩
          case measure => simp [intOf]; omega
        · have hd : (y != xi) = true := by simp [hyx]
          rw [if_neg hyx] at HSTP
          have S5 := Lib.hid hst.out
          have AX5 := Lib.hid hax.out
          clear hst hax hyx
          go_wp2
          go_quiet (fail)
          go_upto_region 8 with fail
          have S6 := Lib.hid (S5.out.drewN nq)
          have AX6 := Lib.hid (AX5.out.drewN nq)
          have O6 := Lib.hid (hon.out.below (below_drewN (Below.refl _ wr) nq))
          obtain ⟨gB, rfl⟩ := g_own_at S6.out.r.e (by omega)
          clear S5 AX5 a2 a3 b3 hol
          generalize hWW : World.drewN wr nq = W8 at S6 AX6 O6 ⊢
          clear hWW
          have hcl := S6.out.r.nl.2.1
          have hci : cev[i]? = some xi := by
            have h1 := HCE.out
            rw [List.getD_eq_getElem?_getD, List.getElem?_eq_getElem (by omega)] at h1
            rw [List.getElem?_eq_getElem (by omega), ← h1]
            rfl
          have r5 := S6.out.r.bx.cell (i := 5) rfl
          have rl := S6.out.r.bx.lt
          have xe : W8.cell? ⟨gB, i, none⟩ = some (.int .i64 xi) := (S6.out.r.e.cellAt i (by omega)).trans (by rw [vi_get, hci]; rfl)
          have fe := S6.out.r.e.frozenAt i
          have el := (S6.out.r.e.lt gB rfl).2
          have a3 : W8.cell? ⟨g3, r, none⟩ = some (.int .i64 y) := (AX6.out.oy.cellAt r (by omega)).trans (by rw [vi_get, HYR.out]; rfl)
          go_region
          have S7 := Lib.hid ((S6.out.gotE i y).below (Below.refl _ _).drew)
          have AX7 := Lib.hid ((AX6.out.grown (S6.out.r.e.stored i (.int .i64 y)).2 (fun g hg => OB.out g hg)).below (Below.refl _ _).drew)
          have O7 := Lib.hid ((O6.out.grown (S6.out.r.e.stored i (.int .i64 y)).2 (fun z hz => .inr (.inl hz))).below (Below.refl _ _).drew)
          clear S6 AX6 O6 hon r5 rl xe fe el a3 hci
          generalize hWW : World.drew (W8.setCell ⟨gB, i, none⟩ (.int .i64 y)) = W9 at S7 AX7 O7 ⊢
          clear hWW
          obtain ⟨gb, go, eg, rfl, hgbw, heg, z0, z1, z2⟩ := HSG.out.at_ hilt
          have hee : edgeAt G i = eg := by unfold edgeAt; rw [List.getD_eq_getElem?_getD, heg.out]; rfl
          have hoi := other_in HGG.out hilt (v : Int)
          rw [hee] at hoi HSTP
          obtain ⟨un, hun⟩ : ∃ un : Nat, otherE eg (v : Int) = (un : Int) := ⟨(otherE eg (v : Int)).toNat, by omega⟩
          have CO := Lib.hid (fun W => otherEnd_any eg (v : Int) W)
          rw [hun] at hoi HSTP CO
          unfold GNum at CO
          have hu8 : un / 8 < bytesN n := lt_bytes (by omega)
          have y0 := (S7.out.h.cell (p := ⟨gb, go + i * 3, none⟩) hgbw).trans z0
          have y1 := (S7.out.h.cell (p := ⟨gb, go + i * 3 + 1, none⟩) hgbw).trans z1
          have y2 := (S7.out.h.cell (p := ⟨gb, go + i * 3 + 2, none⟩) hgbw).trans z2
          have m1 := AX7.out.bg.cell (i := 1) rfl
          have ml := AX7.out.bg.lt
          have n0 := AX7.out.bn.cell (i := 0) rfl
          have n1 := AX7.out.bn.cell (i := 1) rfl
          have nl := AX7.out.bn.lt
          have hbw : gb < W9.heap.size := Nat.lt_of_lt_of_le hgbw S7.out.h.size
          clear z0 z1 z2 heg hee
          by_cases hvu : v < un
          · rw [if_pos (by omega)] at HSTP
            rw [with_is HSN.out (by omega), Int.toNat_natCast] at HSTP
            have CK := Lib.hid (fun W (h : USt w0 W b p s it dn (some ⟨gA, 0, none⟩) n c (some ⟨gB, 0, none⟩) G.length d nn C j k D q e cvs (cev.set i y) cnx cnw) => wake_now w0 W b p s it dn (some ⟨gA, 0, none⟩) n c (some ⟨gB, 0, none⟩) G.length d nn C j k ND D q e cvs (cev.set i y) cnx cnw n v un HWW.out h HSW.out (by have := HQ.out; omega) (by omega) hvu)
            clear hvu
            have MOD : Hid (∀ g, (Value.slice D q e).ownBlock = some g → updBlk (some ⟨gA, 0, none⟩) n c (some ⟨gB, 0, none⟩) G.length d C j k D q e g) := Lib.hid (fun g hg => .inr (.inr (.inr hg)))
            go_upto_region 9 with fail
            go_region_law (first | (go_simp; go_at_call 65; with_reducible refine (CK.out _ (by first | exact SA.out | exact SA.out.below (Below.refl _ _).drew)).mono ?_; rintro r10 wb ⟨rfl, hus, hgr⟩; have SB := Lib.hid hus; have AXB := Lib.hid (by first | exact AXA.out.grown hgr (fun g hg => OD.out g hg) | exact (AXA.out.below (Below.refl _ _).drew).grown hgr (fun g hg => OD.out g hg)); have OR : Hid (OnlyB (updBlk (some ⟨gA, 0, none⟩) n c (some ⟨gB, 0, none⟩) G.length d C j k D q e) w wb) := Lib.hid (OnlyB.grown (by first | exact OQ.out | exact OQ.out.below (Below.refl _ _).drew) hgr MOD.out); clear hus hgr) | (go_simp; go_at_call 66; with_reducible refine (CO.out _).mono ?_; rintro r9 wa ⟨rfl, hba⟩; have HBA : Hid (Below W9.heap.size W9 wa) := Lib.hid (by first | exact hba | exact g_chain (Below.refl _ W9).drew hba); have SA := Lib.hid (S7.out.below HBA.out); have AXA := Lib.hid (AX7.out.below HBA.out); have OQ := Lib.hid (O7.out.below HBA.out); clear hba; have na0 := AXA.out.bn.cell (i := 0) rfl; have na1 := AXA.out.bn.cell (i := 1) rfl; have nal := AXA.out.bn.lt))
            all_goals
              go_wp2
              go_roundw
              case rel => exact ⟨r + 1, by omega, by go_num, by rw [HSTP.out]; exact SB, AXB, OR⟩
              case measure => simp [intOf]; omega
          · rw [if_neg (by omega)] at HSTP
            rw [with_is HSX.out (by omega), Int.toNat_natCast] at HSTP
            have CK := Lib.hid (fun W (h : USt w0 W b p s it dn (some ⟨gA, 0, none⟩) n c (some ⟨gB, 0, none⟩) G.length d nn C j k D q e cvs (cev.set i y) cnx cnw) => wake_next w0 W b p s it dn (some ⟨gA, 0, none⟩) n c (some ⟨gB, 0, none⟩) G.length d nn C j k ND D q e cvs (cev.set i y) cnx cnw n v un HWW.out h HSY.out (by have := HJ.out; omega) (by omega) hvu)
            clear hvu
            have MOC : Hid (∀ g, (Value.slice C j k).ownBlock = some g → updBlk (some ⟨gA, 0, none⟩) n c (some ⟨gB, 0, none⟩) G.length d C j k D q e g) := Lib.hid (fun g hg => .inr (.inr (.inl hg)))
            go_upto_region 9 with fail
            go_region_law (first | (go_simp; go_at_call 65; with_reducible refine (CK.out _ (by first | exact SA.out | exact SA.out.below (Below.refl _ _).drew)).mono ?_; rintro r10 wb ⟨rfl, hus, hgr⟩; have SB := Lib.hid hus; have AXB := Lib.hid (by first | exact AXA.out.grown hgr (fun g hg => OC.out g hg) | exact (AXA.out.below (Below.refl _ _).drew).grown hgr (fun g hg => OC.out g hg)); have OR : Hid (OnlyB (updBlk (some ⟨gA, 0, none⟩) n c (some ⟨gB, 0, none⟩) G.length d C j k D q e) w wb) := Lib.hid (OnlyB.grown (by first | exact OQ.out | exact OQ.out.below (Below.refl _ _).drew) hgr MOC.out); clear hus hgr) | (go_simp; go_at_call 66; with_reducible refine (CO.out _).mono ?_; rintro r9 wa ⟨rfl, hba⟩; have HBA : Hid (Below W9.heap.size W9 wa) := Lib.hid (by first | exact hba | exact g_chain (Below.refl _ W9).drew hba); have SA := Lib.hid (S7.out.below HBA.out); have AXA := Lib.hid (AX7.out.below HBA.out); have OQ := Lib.hid (O7.out.below HBA.out); clear hba; have na0 := AXA.out.bn.cell (i := 0) rfl; have na1 := AXA.out.bn.cell (i := 1) rfl; have nal := AXA.out.bn.lt))
            all_goals
              go_wp2
              go_roundw
              case rel => exact ⟨r + 1, by omega, by go_num, by rw [HSTP.out]; exact SB, AXB, OR⟩
              case measure => simp [intOf]; omega
      · obtain rfl : r = (idxT G (v : Int) G.length).length := by omega
        have HF := Lib.hid hst.out
        have HO := Lib.hid hon.out
        clear hst hax hol HS4 hon
        go_wp2
        go_end0
        rw [HVS.out, HT.out]
        exact ⟨rfl, HF.out, HO.out⟩
end Go.Proofs.YtpgnappddddlpaaGreatDoor
