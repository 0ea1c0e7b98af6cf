/- The program's encoding of a list of numbers. Condition: at most 2^20 numbers. -/
import Derived.Test.YtmbabbapcjphgaaPackI
namespace Go.Proofs.Ytmbabbapcjphgaa
open Go.RowKit

/-- A block of numbers reads as them. -/
theorem sli_blk {w : World} {b : Nat} {xs : List Int} {t : TypeId} (h : Blk w b (vi xs).toArray t) : SlI w (some ⟨b, 0, none⟩) xs.length xs :=
  ⟨rfl, ⟨by rw [vi_len, Nat.mul_one], fun _ => ⟨b, 0, rfl, h.lt, fun j u hj => by
    have h9 := h.cell (i := j) (v := u) (by rw [List.getElem?_toArray]; exact hj)
    simpa using h9⟩⟩⟩
theorem list_ok {m : Nat} {l : List Int} (hl : l.length = m) (hm : m ≤ 400) : (true && [(m : Int)].all numOk && l.all numOk) = listOk l := by
  have e1 : numOk (m : Int) = true := by simp only [numOk, decide_eq_true_eq]; omega
  unfold listOk
  rw [hl, decide_eq_true hm]
  simp [e1]
theorem list_ys {m : Nat} {l : List Int} (hl : l.length = m) (hm : m ≤ 400) : (if (true && [(m : Int)].all numOk && l.all numOk) = true then [] ++ [(m : Int)].flatMap (fun x => putVar [] x) ++ l.flatMap (fun x => putFix [] x) else []) = listY l := by
  rw [list_ok hl hm, listY, hl, ← putVar_nil m (by omega)]
  simp

set_option maxRecDepth 10000 in
set_option maxHeartbeats 2000000 in
theorem implListBytes (E : Option Addr) (m d : Nat) (l : List Int) (w : World) (h2 : SlI w E m l) (hm : m ≤ 1048576) :
    Calls Try.prog 41 #[.slice E m d] w (PutRes w (listOk l) (listY l)) := by
  have HI := Lib.hid h2
  have HL := Lib.hid h2.len
  by_cases hb : m ≤ 400
  · have CP := Lib.hid (packer_any w)
    clear h2
    go_enter Try.func41, Try.ntmps41
    go_wp2_with fail
    refine CP.out.mono ?_
    rintro e w1 ⟨rfl, hp1, hb1⟩
    have HP := Lib.hid hp1
    have HB := Lib.hid hb1
    clear hp1 hb1
    go_wp2_with fail
    refine (writePutVar_any _ 1 1 w.heap.size w.heap.size (w.heap.size + 1) [(m : Int)] [] true _ (HP.out.below (below_a1 w1 _)) (fun W hk => sli_blk (xs := [(m : Int)]) (hk.stay _ _ _ (Blk.new w1 _ _) (by have := HP.out.all.lt; omega) (by have := HP.out.all.lt; omega) (by decide))) (by omega) (by simp) (by simp; have := HB.out.size; omega) (by omega) (by omega) (by omega)).mono ?_
    rintro e w2 ⟨rfl, hp2, hk2⟩
    have HP2 := Lib.hid hp2
    have HK2 := Lib.hid ((PK.ofBelow (lo := w.heap.size) (go := w.heap.size) (gw := w.heap.size + 1) (below_a1 w1 _) HB.out.size).trans hk2)
    clear hp2 hk2
    go_wp2_with fail
    refine (writePutFix_any E m d w.heap.size w.heap.size (w.heap.size + 1) l _ _ _ HP2.out (fun W hk => HI.out.below (HB.out.trans (HK2.out.below.trans hk.below))) hm ?_ ?_ (by omega) (by omega) (by omega)).mono ?_
    · have := putVar_length [] (m : Int); simp at this ⊢; omega
    · exact Nat.le_trans HB.out.size HK2.out.below.size
    rintro e w3 ⟨rfl, hp3, hk3⟩
    have HP3 := Lib.hid hp3
    have HK3 := Lib.hid hk3
    clear hp3 hk3
    go_wp2_with fail
    refine (written_any HP3.out).mono ?_
    rintro e w4 ⟨rfl, A, c, rfl, ho⟩
    rw [list_ys HL.out hb] at ho ⊢
    rw [list_ok HL.out hb]
    have HO := Lib.hid ho
    clear ho
    go_wp2
    go_ret2
    exact ⟨A, c, rfl, HO.out, HB.out.trans (HK2.out.below.trans HK3.out.below)⟩
  · have hb2 : (400 : Int) < (m : Int) := by omega
    have hno : listOk l = false := by unfold listOk; rw [HL.out, decide_eq_false hb, Bool.false_and]
    clear h2 hb
    rw [listY, hno]
    go_enter Try.func41, Try.ntmps41
    go_wp2
    go_ret2
    exact PutRes.no w
end Go.Proofs.Ytmbabbapcjphgaa
