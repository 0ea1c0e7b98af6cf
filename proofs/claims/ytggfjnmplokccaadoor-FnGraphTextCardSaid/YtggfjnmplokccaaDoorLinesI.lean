/- The contracts of the program's functions that cut a text into lines and read its first line. Condition: at most 2^20 bytes; the library's word length is an int in memory, its table of powers of ten and its two errors hold what their text lays. -/
import Derived.Test.YtggfjnmplokccaaDoorReadBox
namespace Go.Proofs.YtggfjnmplokccaaDoor
open Go.RowKit

/-- Lines in memory. -/
def LinesP (w : World) (ss : List ByteArray) (e : Ending) (w' : World) : Prop :=
  ∃ A c, e = .returned (.slice A ss.length c) ∧ RdS w' A ss.length ss ∧ ss.length ≤ c ∧ Below w.heap.size w w'
theorem size_empty {p : ByteArray} (h : p.size = 0) : p = ⟨#[]⟩ := by
  apply ByteArray.ext
  exact Array.eq_empty_of_size_eq_zero h
theorem row_reads (w : World) (ss : List ByteArray) (o : Obj) (h : o = .cells (ss.map Value.string).toArray 9) : RdS (w.alloc o) (some ⟨w.heap.size, 0, none⟩) ss.length ss := by
  subst h
  refine ⟨rfl, fun _ => ⟨w.heap.size, 0, rfl, by simp, fun j s hs => ?_⟩⟩
  rw [Nat.zero_add]
  have hj := (List.getElem?_eq_some_iff.1 hs).1
  simp [hs]

set_option maxRecDepth 10000 in
set_option maxHeartbeats 1000000 in
theorem implLines (s : ByteArray) (w : World) (hs : s.size ≤ 1048576) (hm : MaxLen w) : Calls Tryd.prog 18 #[.string s] w (LinesP w (linesOf s)) := by
  obtain ⟨m, hm⟩ := hm
  have C0 : Calls Tryd.prog 36 #[.string s, .string newl] w fun e w' => e = .returned (.slice (some ⟨w.heap.size, 0, none⟩) (Lib.countB s newl + 1) (Lib.countB s newl + 1)) ∧ w' = w.alloc (.cells ((Lib.splitB newl 0 (Lib.countB s newl) s).map Value.string).toArray 9) :=
    let L := Tryd.laysM146
    Any.strings_Split { L with } L.i9 s newl m w (by omega) hm (by decide)
  have hlen : (pieces s).length = Lib.countB s newl + 1 := by rw [← split_pieces]; exact Lib.splitB_all newl (by decide) 0 _ s rfl
  have hpl := pieces_length s
  rw [split_pieces, ← hlen] at C0
  have HL : Hid (linesOf s = cutE (pieces s)) := Lib.hid rfl
  have hpos := pieces_pos s
  generalize pieces s = ps at C0 HL hpl hpos
  generalize linesOf s = ls at HL
  obtain ⟨init, p, rfl⟩ : ∃ init p, ps = init ++ [p] := by
    rcases List.eq_nil_or_concat ps with h | ⟨i, p, h⟩
    · rw [h] at hpos; simp at hpos
    · exact ⟨i, p, by rw [h, List.concat_eq_append]⟩
  have HCS := Lib.hid (HL.out.trans (cutE_snoc init p))
  have HR := Lib.hid (row_reads w (init ++ [p]) _ rfl)
  obtain ⟨n, hn⟩ : ∃ n, n = init.length := ⟨_, rfl⟩
  have hl : (init ++ [p]).length = n + 1 := by rw [hn]; simp
  rw [hl] at C0 hpl
  have HR2 := HR.out
  rw [hl] at HR2
  obtain ⟨W0, hW0⟩ : ∃ W0, W0 = w.alloc (.cells ((init ++ [p]).map Value.string).toArray 9) := ⟨_, rfl⟩
  rw [← hW0] at C0 HR2
  have HB0 : Hid (Below w.heap.size w W0) := Lib.hid (by rw [hW0]; exact below_a1 _ _)
  have hcell : W0.cell? ⟨w.heap.size, n, none⟩ = some (.string p) := by
    obtain ⟨b, off, e, _, hc⟩ := HR2.lies (by omega)
    injection e with e
    injection e with e1 e2 e3
    subst e1; subst e2
    have := hc n p (by rw [hn]; simp)
    rwa [Nat.zero_add] at this
  have HN := Lib.hid hn
  have C := Lib.hid C0
  obtain ⟨P', hsl, hrd⟩ := most_to HR2 (m := n) (by omega) (Nat.le_refl _)
  have HRD : Hid (RdS W0 P' n init) := Lib.hid (by rw [hn] at hrd ⊢; simpa using hrd)
  have HR3 := Lib.hid HR2
  clear C0 hlen hm HL hW0 HR hn hl hrd HR2 hpos
  by_cases hz : p.size = 0
  · obtain rfl := size_empty hz
    have HV : Hid (ls = init) := Lib.hid (by rw [HCS.out, if_pos hz])
    go_enter Tryd.func18, Tryd.ntmps18
    go_wp2_with fail
    refine C.out.mono ?_
    rintro e w1 ⟨rfl, rfl⟩
    go_wp2
    go_ret
    rw [HV.out]
    exact ⟨P', n + 1, by rw [← HN.out]; rfl, by rw [← HN.out]; exact HRD.out, by rw [← HN.out]; omega, HB0.out⟩
  · have hq : p.toList.isEmpty = false := by
      rw [Go.ByteArray.toList_eq, List.isEmpty_eq_false_iff]
      exact fun h => hz (by have h2 := congrArg List.length h; simpa using h2)
    have HV : Hid (ls = init ++ [p]) := Lib.hid (by rw [HCS.out, if_neg hz])
    go_enter Tryd.func18, Tryd.ntmps18
    go_wp2_with fail
    refine C.out.mono ?_
    rintro e w1 ⟨rfl, rfl⟩
    go_wp2
    go_ret
    rw [HV.out]
    have hl : (init ++ [p]).length = n + 1 := by rw [HN.out]; simp
    exact ⟨_, n + 1, by rw [hl]; rfl, by rw [hl]; exact HR3.out, by rw [hl]; exact Nat.le_refl _, HB0.out⟩

/-- The program's error of a line. -/
def errV (c : Int) : Value := .iface 47 (.agg #[.int .i64 c])
def SizeP (w : World) (n c : Int) (e : Ending) (w' : World) : Prop := e = .returned (.tuple #[.int .i64 n, if c = 0 then .nilIface else errV c]) ∧ Below w.heap.size w w'
def sizeN (h : ByteArray) : Int × Int := if numB h then (if 150 < valB h then (0, 2) else (valB h, 0)) else (0, 1)
set_option maxHeartbeats 1000000 in
theorem implSize (s : ByteArray) (w : World) (hs : s.size ≤ 1048576) (ht : Pow10 w) (he : Errs w) :
    Calls Tryd.prog 34 #[.string s] w (SizeP w (sizeN s).1 (sizeN s).2) := by
  have CT := implTextNum s w hs ht he
  cases hv : numB s with
  | false =>
    have HV : Hid (sizeN s = (0, 1)) := Lib.hid (by simp [sizeN, hv])
    rw [tnVal_no _ (show tn s.data.toList = false from hv)] at CT
    have C := Lib.hid CT
    clear CT hv ht he
    go_enter Tryd.func34, Tryd.ntmps34
    go_wp2_with fail
    refine C.out.mono ?_
    rintro e w1 ⟨rfl, hb1⟩
    go_wp2
    go_ret2
    rw [HV.out]
    exact ⟨rfl, hb1⟩
  | true =>
    rw [tnVal_yes _ (show tn s.data.toList = true from hv)] at CT
    have C := Lib.hid CT
    have hvb : (val10 s.data.toList : Int) = valB s := rfl
    rw [hvb] at C
    have HV1 : Hid (150 < valB s → sizeN s = (0, 2)) := Lib.hid (fun h => by simp [sizeN, hv, h])
    have HV2 : Hid (¬ 150 < valB s → sizeN s = (valB s, 0)) := Lib.hid (fun h => by unfold sizeN; rw [hv, if_pos rfl, if_neg h])
    have hbd := valB_bd hv
    generalize sizeN s = R at HV1 HV2
    generalize valB s = x at C HV1 HV2 hbd
    clear CT hv ht he hvb
    by_cases h150 : 150 < x
    · have HV := Lib.hid (HV1.out h150)
      go_enter Tryd.func34, Tryd.ntmps34
      go_wp2_with fail
      refine C.out.mono ?_
      rintro e w1 ⟨rfl, hb1⟩
      go_wp2
      go_ret2
      rw [HV.out]
      exact ⟨rfl, hb1⟩
    · have HV := Lib.hid (HV2.out h150)
      go_enter Tryd.func34, Tryd.ntmps34
      go_wp2_with fail
      refine C.out.mono ?_
      rintro e w1 ⟨rfl, hb1⟩
      go_wp2
      go_ret2
      rw [HV.out]
      exact ⟨rfl, hb1⟩
end Go.Proofs.YtggfjnmplokccaaDoor
