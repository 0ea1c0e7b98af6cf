/- The contracts of the two readers of numerals, given that the library's table of powers of ten and its two errors hold what their text lays. -/
import Derived.Test.YtggfjnmplokccaaDoorDoorText
import Derived.Test.YtggfjnmplokccaaDoorTextMath
import Derived.Test.YtggfjnmplokccaaDoorShelfAtoi
import Derived.Shelf.Strconv.ErrVarAll
import Derived.Lib.UnsafeStr
namespace Go.Proofs.YtggfjnmplokccaaDoor
open Go.RowKit

def tnVal (l : List UInt8) : Value := .tuple #[.int .i64 (if tn l then (val10 l : Int) else 0), .bool (tn l)]
theorem tnVal_yes (l : List UInt8) (h : tn l = true) : tnVal l = .tuple #[.int .i64 (val10 l : Int), .bool true] := by simp [tnVal, h]
theorem tnVal_no (l : List UInt8) (h : tn l = false) : tnVal l = .tuple #[.int .i64 0, .bool false] := by simp [tnVal, h]
def Errs (w : World) : Prop := (∃ tp p, w.var? Tryd.prog "strconv.ErrSyntax" = some #[.iface tp p]) ∧ ∃ tp p, w.var? Tryd.prog "strconv.ErrRange" = some #[.iface tp p]
theorem Errs.below {w w' : World} (h : Errs w) (hb : Below w.heap.size w w') : Errs w' := by
  obtain ⟨⟨t1, p1, h1⟩, t2, p2, h2⟩ := h
  exact ⟨⟨t1, p1, var_below h1 hb⟩, t2, p2, var_below h2 hb⟩

theorem bytes_beq (a b : ByteArray) : (a.toList == b.toList) = decide (a.data.toList = b.data.toList) := by
  rw [Go.ByteArray.toList_eq, Go.ByteArray.toList_eq]
  by_cases h : a.data.toList = b.data.toList
  · rw [h]; simp
  · rw [decide_eq_false h, beq_eq_false_iff_ne]; exact h

theorem below_bytesWorld (w : World) (t : TypeId) (s : ByteArray) : Below w.heap.size w (Lib.bytesWorld w t s) := by
  unfold Lib.bytesWorld
  exact Lib.below_freeze (((Below.refl _ _).drew).alloc (Nat.le_refl _) _) (p := ⟨w.heap.size, (Lib.bytesCells w t s).size, none⟩) (Nat.le_refl _) _

/-- How Atoi ends: a value and no error, or an error that is not nil. -/
theorem atoi_yes (s : ByteArray) (w : World) (hs : s.size ≤ 1048576) (v : Int) (h : Lib.atoiAll s.data.toList = .ok v) :
    Calls Tryd.prog 57 #[.string s] w fun e w' => e = .returned (.tuple #[.int .i64 v, .nilIface]) ∧ Below w.heap.size w w' := by
  have C : Calls Tryd.prog 57 #[.string s] w fun e w' => e = .returned (.tuple #[.int .i64 v, .nilIface]) ∧ (w' = w ∨ ∃ t, w' = Lib.bytesWorld w 5 t) := Any.strconv_Atoi_ok Tryd.laysC172 s (by omega) v h w
  refine C.mono ?_
  rintro e w' ⟨rfl, rfl | ⟨t, rfl⟩⟩
  · exact ⟨rfl, Below.refl _ _⟩
  · exact ⟨rfl, below_bytesWorld w _ t⟩
def ErrRes (w : World) (e : Ending) (w' : World) : Prop := ∃ (v : Int) (t : TypeId) (p : Value), e = .returned (.tuple #[.int .i64 v, .iface t p]) ∧ Below w.heap.size w w'
theorem atoi_no (s : ByteArray) (w : World) (hs : s.size ≤ 1048576) (h : ∀ v, Lib.atoiAll s.data.toList ≠ .ok v) (he : Errs w) :
    Calls Tryd.prog 57 #[.string s] w (ErrRes w) := by
  obtain ⟨⟨t1, p1, h1⟩, t2, p2, h2⟩ := he
  cases hq : Lib.atoiAll s.data.toList with
  | ok v => exact absurd hq (h v)
  | range =>
    refine (Any.strconv_Atoi_range_var Tryd.laysC172 s (by omega) hq t2 p2 w h2).mono ?_
    rintro e w' ⟨N, rfl, _, _, hb⟩
    exact ⟨_, _, _, rfl, hb⟩
  | _ =>
    refine (Any.strconv_Atoi_syntax_var Tryd.laysC172 s (by omega) hq t1 p1 w h1).mono ?_
    rintro e w' ⟨N, rfl, _, _, hb⟩
    exact ⟨_, _, _, rfl, hb⟩
theorem tn_nil : tn [] = false := by
  cases h : tn [] with
  | false => rfl
  | true => exact absurd (tn_iff [] h).2 (dec_ne_nil _)

set_option maxRecDepth 10000 in
set_option maxHeartbeats 400000 in
theorem implTextNum (s : ByteArray) (w : World) (hs : s.size ≤ 1048576) (ht : Pow10 w) (he : Errs w) :
    Calls Tryd.prog 47 #[.string s] w fun e w' => e = .returned (tnVal s.data.toList) ∧ Below w.heap.size w w' := by
  cases htn : tn s.data.toList with
  | true =>
    obtain ⟨hv, hd⟩ := tn_iff _ htn
    have hval := Lib.hid (tnVal_yes _ htn)
    have ha : Lib.atoiAll s.data.toList = .ok (val10 s.data.toList : Int) := by
      have := atoi_dec _ hv
      rw [hd] at this
      exact this
    generalize hvv : val10 s.data.toList = v at *
    have C1 := Lib.hid (atoi_yes s w hs v ha)
    have C2 := fun W h => implText_yes v W hv h
    unfold TextRes at C2
    have hq : ((⟨(Lib.decDigits v).toArray⟩ : ByteArray).toList == s.toList) = true := by rw [bytes_beq]; exact decide_eq_true hd
    generalize (⟨(Lib.decDigits v).toArray⟩ : ByteArray) = S at C2 hq
    have CC := Lib.hid C2
    have HT := Lib.hid ht
    clear C2 htn hd ha ht he hvv
    go_enter Tryd.func47, Tryd.ntmps47
    go_wp2_with fail
    refine C1.out.mono ?_
    rintro e wa ⟨rfl, hba⟩
    go_wp2_with fail
    refine (CC.out wa (HT.out.below hba)).mono ?_
    rintro e wb ⟨rfl, hbb⟩
    go_wp2
    go_ret2
    exact ⟨by rw [hval.out]; rfl, hba.trans (hbb.mono hba.size)⟩
  | false =>
    have hval := Lib.hid (tnVal_no _ htn)
    by_cases hex : ∃ v, Lib.atoiAll s.data.toList = .ok v
    · obtain ⟨v, ha⟩ := hex
      have C1 := Lib.hid (atoi_yes s w hs v ha)
      have hne : s.data.toList ≠ [] := by
        intro h0
        rw [h0] at ha
        cases ha
      by_cases hr : 0 ≤ v ∧ v ≤ 281474976710655
      · obtain ⟨n, rfl⟩ : ∃ n : Nat, v = n := ⟨v.toNat, by omega⟩
        have hn : n ≤ 281474976710655 := by omega
        have C2 := fun W h => implText_yes n W hn h
        unfold TextRes at C2
        have hq : ((⟨(Lib.decDigits n).toArray⟩ : ByteArray).toList == s.toList) = false := by rw [bytes_beq]; exact decide_eq_false (tn_no _ htn n hn)
        generalize (⟨(Lib.decDigits n).toArray⟩ : ByteArray) = S at C2 hq
        have CC := Lib.hid C2
        have HT := Lib.hid ht
        clear C2 htn ha ht he hr hne
        go_enter Tryd.func47, Tryd.ntmps47
        go_wp2_with fail
        refine C1.out.mono ?_
        rintro e wa ⟨rfl, hba⟩
        go_wp2_with fail
        refine (CC.out wa (HT.out.below hba)).mono ?_
        rintro e wb ⟨rfl, hbb⟩
        go_wp2
        go_ret2
        exact ⟨by rw [hval.out]; rfl, hba.trans (hbb.mono hba.size)⟩
      · have hr2 : v < 0 ∨ 281474976710655 < v := by omega
        have C2 := fun W => implText_no v W hr2
        have hq : ((⟨#[]⟩ : ByteArray).toList == s.toList) = false := by rw [bytes_beq]; exact decide_eq_false (fun h => hne h.symm)
        generalize (⟨#[]⟩ : ByteArray) = S at C2 hq
        have CC := Lib.hid C2
        clear C2 htn ha ht he hr hr2 hne
        go_enter Tryd.func47, Tryd.ntmps47
        go_wp2_with fail
        refine C1.out.mono ?_
        rintro e wa ⟨rfl, hba⟩
        go_wp2_with fail
        refine (CC.out wa).mono ?_
        rintro e wb ⟨rfl, rfl⟩
        go_wp2
        go_ret2
        exact ⟨by rw [hval.out]; rfl, hba⟩
    · have C1 := Lib.hid (atoi_no s w hs (fun v h => hex ⟨v, h⟩) he)
      clear htn hex ht he
      go_enter Tryd.func47, Tryd.ntmps47
      go_wp2_with fail
      refine C1.out.mono ?_
      rintro e wa ⟨v, t, p, rfl, hba⟩
      go_wp2
      go_ret2
      exact ⟨by rw [hval.out]; rfl, hba⟩
theorem val10_take (s : ByteArray) (k : Nat) (h : k < s.size) : val10 (s.data.toList.take (k + 1)) = val10 (s.data.toList.take k) * 10 + (s[k].toNat - 48) := by
  have hl : k < s.data.toList.length := by simpa using h
  rw [List.take_succ_eq_append_getElem hl, val10_snoc]
  rfl
theorem val10_lt (l : List UInt8) (h : ∀ c ∈ l, c.toNat ≤ 57) : val10 l < 10 ^ l.length := by
  suffices H : ∀ (l : List UInt8) (a k : Nat), a < 10 ^ k → (∀ c ∈ l, c.toNat ≤ 57) → l.foldl (fun n c => n * 10 + (c.toNat - 48)) a < 10 ^ (k + l.length) by
    have := H l 0 0 (by simp) h
    simpa [val10] using this
  intro l
  induction l with
  | nil => intro a k ha _; simpa using ha
  | cons c r ih =>
    intro a k ha hc
    have h1 := hc c (by simp)
    have := ih (a * 10 + (c.toNat - 48)) (k + 1) (by rw [Nat.pow_succ]; omega) (fun x hx => hc x (by simp [hx]))
    rw [List.foldl_cons, List.length_cons, show k + (r.length + 1) = k + 1 + r.length by omega]
    exact this
theorem tn_long (l : List UInt8) (h : 15 < l.length) : tn l = false := by
  cases hq : tn l with
  | false => rfl
  | true =>
    obtain ⟨h1, h2⟩ := tn_iff l hq
    have := dec_len15 _ h1
    rw [h2] at this
    omega
theorem tn_char (l : List UInt8) (c : UInt8) (hc : c ∈ l) (h : c.toNat < 48 ∨ 57 < c.toNat) : tn l = false := by
  cases hq : tn l with
  | false => rfl
  | true =>
    obtain ⟨h1, h2⟩ := tn_iff l hq
    have := dec_digit (val10 l) c (by rw [h2]; exact hc)
    omega
theorem mem_take_byte (s : ByteArray) (k : Nat) (c : UInt8) (h : k < s.size) (hc : c ∈ s.data.toList.take (k + 1)) : c ∈ s.data.toList.take k ∨ c = s[k] := by
  have hl : k < s.data.toList.length := by simpa using h
  rw [List.take_succ_eq_append_getElem hl, List.mem_append, List.mem_singleton] at hc
  exact hc

set_option maxRecDepth 10000 in
set_option maxHeartbeats 1000000 in
theorem specTextNum (s : ByteArray) (w : World) (hs : s.size ≤ 1048576) :
    Calls Tryd.prog 33 #[.string s] w fun e w' => e = .returned (tnVal s.data.toList) ∧ Below w.heap.size w w' := by
  have hlen : s.data.toList.length = s.size := Array.length_toList
  by_cases hz : s.size < 1
  · have hnil : s.data.toList = [] := List.eq_nil_of_length_eq_zero (by rw [hlen]; omega)
    have hno := Lib.hid (tnVal_no _ (show tn s.data.toList = false by rw [hnil]; exact tn_nil))
    clear hnil
    clear hlen
    go_enter Tryd.func33, Tryd.ntmps33
    go_wp2
    go_ret2
    exact ⟨by rw [hno.out]; rfl, Below.refl _ _⟩
  · by_cases hbig : 15 < s.size
    · have hno := Lib.hid (tnVal_no _ (tn_long _ (show 15 < s.data.toList.length by rw [hlen]; exact hbig)))
      clear hlen
      go_enter Tryd.func33, Tryd.ntmps33
      go_wp2
      go_ret2
      exact ⟨by rw [hno.out]; rfl, Below.refl _ _⟩
    · have HL := Lib.hid hlen
      clear hlen
      go_enter Tryd.func33, Tryd.ntmps33
      go_wp2
      go_loop [4, 5] (fun t i => ∃ k : Nat, k ≤ s.size ∧ i = .int .i64 (k : Int) ∧ (∀ c ∈ s.data.toList.take k, c.toNat ≤ 57) ∧ t = .int .i64 (val10 (s.data.toList.take k) : Nat)) (fun _ i => s.size - (intOf i).toNat)
      case atStart => exact ⟨0, by omega, rfl, by simp, rfl⟩
      case round =>
        obtain ⟨k, hk, rfl, hdig, rfl⟩ := hrel
        have hvb : val10 (s.data.toList.take k) < 1000000000000000 := Nat.lt_of_lt_of_le (val10_lt _ hdig) (Nat.pow_le_pow_right (n := 10) (j := 15) (by omega) (by rw [List.length_take]; omega))
        have HDIG := Lib.hid hdig
        clear hdig
        obtain ⟨v, hv⟩ : ∃ v, v = val10 (s.data.toList.take k) := ⟨_, rfl⟩
        rw [← hv] at hvb ⊢
        have HV := Lib.hid hv
        clear hv
        by_cases hlt : k < s.size
        · by_cases hlo : s[k].toNat < 48
          · have hno := Lib.hid (tnVal_no _ (tn_char _ s[k] (List.getElem_mem (l := s.data.toList) (by simpa using hlt)) (.inl hlo)))
            go_wp2
            go_ret2
            exact ⟨by rw [hno.out]; rfl, Below.refl _ _⟩
          · by_cases hhi : 57 < s[k].toNat
            · have hno := Lib.hid (tnVal_no _ (tn_char _ s[k] (List.getElem_mem (l := s.data.toList) (by simpa using hlt)) (.inr hhi)))
              go_wp2
              go_ret2
              exact ⟨by rw [hno.out]; rfl, Below.refl _ _⟩
            · have hst := Lib.hid (val10_take s k hlt)
              go_wp2
              go_round
              case rel =>
                refine ⟨k + 1, by omega, by go_num, fun c hc => ?_, by rw [hst.out, ← HV.out]; go_num⟩
                rcases mem_take_byte s k c hlt hc with h | h
                · exact HDIG.out c h
                · rw [h]; omega
              case measure => simp [intOf]; omega
        · have hvl : Hid (v = val10 s.data.toList) := by rw [HV.out, List.take_of_length_le (by rw [HL.out]; omega)]; exact rfl
          by_cases hvN : v ≤ 281474976710655
          · have C := specText_yes v w hvN
            unfold TextRes at C
            have hq : ((⟨(Lib.decDigits v).toArray⟩ : ByteArray).toList == s.toList) = tn s.data.toList := by
              rw [bytes_beq]
              unfold tn
              rw [← hvl.out]
              simp [hvN]
            generalize (⟨(Lib.decDigits v).toArray⟩ : ByteArray) = S at C hq
            have CC := Lib.hid C
            clear C
            cases htn : tn s.data.toList with
            | true =>
              have hval := Lib.hid (tnVal_yes _ htn)
              rw [htn] at hq
              rw [← hvl.out] at hval
              clear htn
              go_wp2_with fail
              refine CC.out.mono ?_
              rintro e wa ⟨rfl, hba⟩
              go_wp2
              go_ret2
              exact ⟨by rw [hval.out]; rfl, hba⟩
            | false =>
              have hval := Lib.hid (tnVal_no _ htn)
              rw [htn] at hq
              clear htn
              go_wp2_with fail
              refine CC.out.mono ?_
              rintro e wa ⟨rfl, hba⟩
              go_wp2
              go_ret2
              exact ⟨by rw [hval.out]; rfl, hba⟩
          · have C := specText_no (v : Int) w (by omega)
            have hq : ((⟨#[]⟩ : ByteArray).toList == s.toList) = false := by rw [bytes_beq]; exact decide_eq_false (fun h => by have := HL.out; rw [← h] at this; simp at this; omega)
            have hno := Lib.hid (tnVal_no _ (show tn s.data.toList = false by unfold tn; rw [← hvl.out]; exact decide_eq_false (fun h => hvN h.1)))
            generalize (⟨#[]⟩ : ByteArray) = S at C hq
            have CC := Lib.hid C
            clear C
            go_wp2_with fail
            refine CC.out.mono ?_
            rintro e wa ⟨rfl, rfl⟩
            go_wp2
            go_ret2
            exact ⟨by rw [hno.out]; rfl, Below.refl _ _⟩
end Go.Proofs.YtggfjnmplokccaaDoor
