/- The contracts of the two functions that part a text at blanks: a new slice of the parts. Condition: at most 2^20 bytes; for the program's one: the library's word length is an int in memory. -/
import Derived.Test.YtggfjnmplokccaaDoorWordsS
import Derived.Test.YtggfjnmplokccaaDoorPartsMath
import Derived.Test.YtggfjnmplokccaaDoorPutMath
import Derived.Test.YtggfjnmplokccaaDoorShelfSplit
import Derived.Lib.IndexBytes
namespace Go.Proofs.YtggfjnmplokccaaDoor
open Go.RowKit

def mkB (l : List UInt8) : ByteArray := ⟨l.toArray⟩
def parts (s : ByteArray) : List ByteArray := (pl s.data.toList).map mkB
theorem mkB_data (s : ByteArray) : mkB s.data.toList = s := by
  unfold mkB
  apply ByteArray.ext
  simp
theorem parts_length (s : ByteArray) : (parts s).length ≤ s.size + 1 := by
  have h := pl_length s.data.toList
  have e : s.data.toList.length = s.size := Array.length_toList
  unfold parts
  rw [List.length_map]
  omega
theorem parts_pos (s : ByteArray) : 0 < (parts s).length := by
  have := pl_ne s.data.toList
  unfold parts
  rw [List.length_map]
  exact List.length_pos_iff.mpr this

/-- What has been parted so far, and what is left. -/
structure Cutting (s : ByteArray) (acc : List ByteArray) (f i : Nat) : Prop where
  eq : parts s = acc ++ (attach ((s.data.toList.drop f).take (i - f)) (pl (s.data.toList.drop i))).map mkB
  le : f ≤ i
theorem Cutting.start (s : ByteArray) : Cutting s [] 0 0 := ⟨by simp only [List.nil_append, Nat.sub_self, List.take_zero, List.drop_zero, attach_nil _ (pl_ne _)]; rfl, Nat.le_refl _⟩
theorem extract_mk (s : ByteArray) (f i : Nat) : s.extract f i = mkB ((s.data.toList.drop f).take (i - f)) := by
  rw [← Lib.extract_data]
  exact (mkB_data _).symm
theorem drop_byte (s : ByteArray) (i : Nat) (h : i < s.size) : s.data.toList.drop i = s[i] :: s.data.toList.drop (i + 1) := by
  have hl : i < s.data.toList.length := by rw [Array.length_toList]; exact h
  rw [List.drop_eq_getElem_cons hl]
  rfl
theorem Cutting.cut {s : ByteArray} {acc : List ByteArray} {f i : Nat} (h : Cutting s acc f i) (hi : i < s.size) (hb : s[i] = 32) : Cutting s (acc ++ [s.extract f i]) (i + 1) (i + 1) := by
  refine ⟨?_, Nat.le_refl _⟩
  rw [h.eq, drop_byte s i hi, hb, pl_blank, extract_mk, Nat.sub_self, List.take_zero, attach_nil _ (pl_ne _)]
  simp [attach]
theorem Cutting.go {s : ByteArray} {acc : List ByteArray} {f i : Nat} (h : Cutting s acc f i) (hi : i < s.size) (hb : s[i] ≠ 32) : Cutting s acc f (i + 1) := by
  have hle := h.le
  refine ⟨?_, by omega⟩
  have hl : i - f < (s.data.toList.drop f).length := by rw [List.length_drop, Array.length_toList]; have : s.data.size = s.size := rfl; omega
  have e : (s.data.toList.drop f).take (i + 1 - f) = (s.data.toList.drop f).take (i - f) ++ [s[i]] := by
    have hl2 : i < s.data.toList.length := by rw [Array.length_toList]; exact hi
    have h2 : (s.data.toList.drop f)[i - f]? = some s[i] := by rw [List.getElem?_drop, show f + (i - f) = i by omega, List.getElem?_eq_getElem hl2]; rfl
    rw [show i + 1 - f = (i - f) + 1 by omega, List.take_succ_eq_append_getElem hl, (List.getElem?_eq_some_iff.1 h2).2]
  rw [h.eq, drop_byte s i hi, pl, if_neg hb, attach_attach, e]
theorem Cutting.fin {s : ByteArray} {acc : List ByteArray} {f i : Nat} (h : Cutting s acc f i) (hi : i = s.size) : parts s = acc ++ [s.extract f s.size] := by
  subst hi
  have e1 : s.data.toList.drop s.size = [] := List.drop_of_length_le (by rw [Array.length_toList]; exact Nat.le_refl _)
  rw [h.eq, extract_mk, e1]
  simp [pl, attach]

def PartsRes (w : World) (ss : List ByteArray) (e : Ending) (w' : World) : Prop :=
  ∃ A c, e = .returned (.slice A ss.length c) ∧ w'.ownsRow w.heap.size 9 1 (.slice A ss.length c) ss.length (vs ss) ∧ Below w.heap.size w w'

theorem one_readsS (w : World) (u : Value) : Reads (w.alloc (.cells #[u] 9)) (w.heap.size + 1) 1 (some ⟨w.heap.size, 0, none⟩) 1 [u] := by
  refine ⟨rfl, fun _ => ⟨_, rfl, by simp, fun j v hj => ?_⟩⟩
  match j, hj with
  | 0, hj => simp at hj; subst hj; simp [Addr.add]
theorem one_cellS (x : ByteArray) : ∀ u ∈ [Value.string x], u.oneCell' = true := by intro u hu; simp at hu; subst hu; rfl
theorem own_snocS {w : World} {base n : Nat} {v : Value} {ss : List ByteArray} {x : ByteArray} (h : w.ownsRow base 9 1 v (n + 1) (vs ss ++ [.string x])) (hn : ss.length = n) :
    w.ownsRow base 9 1 v (ss ++ [x]).length (vs (ss ++ [x])) := by
  rw [vs_append, List.length_append, hn]
  exact h

set_option maxRecDepth 10000 in
set_option maxHeartbeats 1000000 in
theorem specParts (s : ByteArray) (w : World) (hs : s.size ≤ 1048576) : Calls Tryd.prog 32 #[.string s] w (PartsRes w (parts s)) := by
  obtain ⟨i0, hi, hz0, hz1, hz2⟩ := info_parts Tryd.infoStr
  have hc0 := Cutting.start s
  go_enter Tryd.func32, Tryd.ntmps32
  go_wp2
  have ho0 : (w.alloc (.cells #[] 9)).ownsRow w.heap.size 9 1 (.slice (some ⟨w.heap.size, 0, none⟩) 0 0) ([] : List ByteArray).length (vs []) := World.ownsRow_lit w #[] 0 (Nat.le_refl _) (by unfold maxLen; omega) rfl
  have hb0 : Below w.heap.size w (w.alloc (.cells #[] 9)) := (Below.refl _ _).alloc (Nat.le_refl _) _
  go_loopw [3, 4, 5] (fun v t5 t wr => ∃ (i f : Nat) (acc : List ByteArray), i ≤ s.size ∧ t = .int .i64 (i : Int) ∧ t5 = .int .i64 (f : Int) ∧ f ≤ i ∧ Cutting s acc f i ∧ acc.length ≤ i ∧ wr.ownsRow w.heap.size 9 1 v acc.length (vs acc) ∧ Below w.heap.size w wr) (fun _ _ t _ => s.size - (intOf t).toNat)
  case atStart => exact ⟨0, 0, [], by omega, rfl, rfl, by omega, hc0, by simp, ho0, hb0⟩
  case round =>
    obtain ⟨i, f, acc, hile, rfl, rfl, hfi, hcut, hal, hown, hbel⟩ := hrel
    by_cases hlt : i < s.size
    · by_cases hb : s[i] = 32
      · have hcut2 := hcut.cut hlt hb
        have heq : ((s[i].toNat : Int) == 32) = true := by rw [hb]; rfl
        have HO := Lib.hid hown
        clear hb hcut hown
        go_wp2_with (at_builtin; refine wpList_append_any _ rfl (.tmp 17) (.tmp 22) _ rfl w.heap.size 9 i0 _ 1 16 Tryd.underlying39 hi hz0 hz1 hz2 rfl (by omega) _ acc.length (vs acc) rfl (HO.out.alloc _) (wr.heap.size + 1) (some ⟨wr.heap.size, 0, none⟩) 1 1 [.string _] rfl (one_readsS _ _) (one_cellS _) (by simp only [maxLen]; omega) (by omega) (by have := hbel.size; simp; omega) ?_; intro v2 w2 hown2 hg2 hat2)
        have ho2 := own_snocS hown2 rfl
        have hb2 : Below w.heap.size w w2 := (hbel.alloc hbel.size _).grown hg2 (by have := hbel.size; simp; omega) (fun q hq => (HO.out.lt q hq).1)
        clear hown2 hg2 hat2
        go_roundw
        case rel => exact ⟨i + 1, i + 1, _, by omega, by go_num, by go_num, Nat.le_refl _, hcut2, by simp; omega, ho2, hb2⟩
        case measure => simp [intOf]; omega
      · have hcut2 := hcut.go hlt hb
        have heq : ((s[i].toNat : Int) == 32) = false := beq_eq_false_iff_ne.mpr (fun h => hb (by
          apply UInt8.toNat_inj.1
          exact Int.natCast_inj.1 h))
        clear hb hcut
        go_wp2
        go_roundw
        case rel => exact ⟨i + 1, f, acc, by omega, by go_num, rfl, by omega, hcut2, by omega, hown, hbel⟩
        case measure => simp [intOf]; omega
    · have hfin := Lib.hid (hcut.fin (by omega))
      have HO := Lib.hid hown
      clear hcut hown
      go_wp2_with (at_builtin; refine wpList_append_any _ rfl (.tmp 26) (.tmp 30) _ rfl w.heap.size 9 i0 _ 1 16 Tryd.underlying39 hi hz0 hz1 hz2 rfl (by omega) _ acc.length (vs acc) rfl (HO.out.alloc _) (wr.heap.size + 1) (some ⟨wr.heap.size, 0, none⟩) 1 1 [.string _] rfl (one_readsS _ _) (one_cellS _) (by simp only [maxLen]; omega) (by omega) (by have := hbel.size; simp; omega) ?_; intro v2 w2 hown2 hg2 hat2)
      have ho2 := own_snocS hown2 rfl
      have hb2 : Below w.heap.size w w2 := (hbel.alloc hbel.size _).grown hg2 (by have := hbel.size; simp; omega) (fun q hq => (HO.out.lt q hq).1)
      obtain ⟨A2, c2, rfl⟩ := own_form ho2
      go_ret
      rw [hfin.out]
      exact ⟨A2, c2, rfl, ho2, hb2⟩
/-- The library's word length is some int in memory. -/
def MaxLen (w : World) : Prop := ∃ m : Int, w.cell? ⟨1, 0, none⟩ = some (.int .i64 m)
theorem MaxLen.below {w w' : World} (h : MaxLen w) (hb : Below w.heap.size w w') : MaxLen w' := by
  obtain ⟨m, hm⟩ := h
  exact ⟨m, (hb.cell (World.block_lt_of_cell? w _ hm)).trans hm⟩

theorem split_parts (s : ByteArray) : Lib.splitB blank 0 (Lib.countB s blank) s = parts s := by
  have h := split_pl _ s rfl
  unfold parts
  rw [← h, List.map_map]
  have e : (mkB ∘ fun t : ByteArray => t.data.toList) = id := funext fun t => mkB_data t
  rw [e, List.map_id]

theorem implParts (s : ByteArray) (w : World) (hs : s.size ≤ 1048576) (hm : MaxLen w) : Calls Tryd.prog 48 #[.string s] w (PartsRes w (parts s)) := by
  obtain ⟨m, hm⟩ := hm
  have C0 : Calls Tryd.prog 36 #[.string s, .string blank] w fun e w' => e = .returned (.slice (some ⟨w.heap.size, 0, none⟩) (Lib.countB s blank + 1) (Lib.countB s blank + 1)) ∧ w' = w.alloc (.cells ((Lib.splitB blank 0 (Lib.countB s blank) s).map Value.string).toArray 9) :=
    let L := Tryd.laysM146
    Any.strings_Split { L with } L.i9 s blank m w (by omega) hm (by decide)
  have hlen : (parts s).length = Lib.countB s blank + 1 := by rw [← split_parts]; exact Lib.splitB_all blank (by decide) 0 _ s rfl
  have hpl := parts_length s
  rw [split_parts, ← hlen] at C0
  have C := Lib.hid C0
  clear C0 hlen hm
  go_enter Tryd.func48, Tryd.ntmps48
  go_wp2_with fail
  refine C.out.mono ?_
  rintro e w1 ⟨rfl, rfl⟩
  go_wp2
  go_ret
  have ho := World.ownsRow_lit (base := w.heap.size) (e := 9) (size := 1) w ((parts s).map Value.string).toArray (parts s).length (Nat.le_refl _) (by unfold maxLen; omega) (by simp)
  exact ⟨_, _, rfl, by simpa [vs] using ho, (Below.refl _ _).alloc (Nat.le_refl _) _⟩

end Go.Proofs.YtggfjnmplokccaaDoor
