/- The contract of the model's function that reads the numbers of a line. Condition: at most 2^20 bytes. -/
import Derived.Test.YtggfjnmplokccaaDoorReadMath
import Derived.Test.YtggfjnmplokccaaDoorTextNumF
namespace Go.Proofs.YtggfjnmplokccaaDoor
open Go.RowKit

theorem r_reads (w : World) (u : Value) (t : TypeId) (g : Nat) (hg : g = w.heap.size) : Reads (w.alloc (.cells #[u] t)) (g + 1) 1 (some ⟨g, 0, none⟩) 1 [u] := by
  subst hg
  refine ⟨rfl, fun _ => ⟨_, rfl, by simp, fun j x hj => ?_⟩⟩
  match j, hj with
  | 0, hj => simp at hj; subst hj; simp [Addr.add]
theorem r_one (x : Int) : ∀ u ∈ [Value.int .i64 x], u.oneCell' = true := by
  intro u hu
  simp at hu
  subst hu
  rfl
theorem r_snoc (xs : List Int) (x : Int) : vi (xs ++ [x]) = vi xs ++ [.int .i64 x] := by rw [vi_append]; rfl
/-- New numbers. -/
def NumsRes (w : World) (xs : List Int) (e : Ending) (w' : World) : Prop :=
  ∃ A c, e = .returned (.slice A xs.length c) ∧ w'.ownsRow w.heap.size 3 1 (.slice A xs.length c) xs.length (vi xs) ∧ Below w.heap.size w w'
/-- A block is not the one that a value lies in. -/
def AwayV (A : Option Addr) (v : Value) : Prop := ∀ b off sp, A = some ⟨b, off, sp⟩ → some b ≠ v.ownBlock
theorem AwayV.step {A : Option Addr} {v v' : Value} {n : Nat} (h : AwayV A v) (hA : ∀ b off sp, A = some ⟨b, off, sp⟩ → b < n) (hv : v'.ownBlock = v.ownBlock ∨ v'.ownBlock = some n) : AwayV A v' := by
  intro b off sp e he
  rcases hv with h3 | h3
  · rw [h3] at he; exact h b off sp e he
  · have := hA b off sp e
    rw [h3] at he
    injection he with he
    omega
theorem RdS.lt {w : World} {A : Option Addr} {n : Nat} {ss : List ByteArray} (h : RdS w A n ss) (hn : 0 < n) : ∀ b off sp, A = some ⟨b, off, sp⟩ → b < w.heap.size := by
  intro b off sp e
  obtain ⟨b', off', e', hb, _⟩ := h.lies hn
  rw [e] at e'
  injection e' with e'
  injection e' with e1 e2 e3
  omega

set_option maxRecDepth 10000 in
set_option maxHeartbeats 2000000 in
theorem specNums (s : ByteArray) (w : World) (hs : s.size ≤ 1048576) : Calls Tryd.prog 16 #[.string s] w (NumsRes w (numsOf s)) := by
  obtain ⟨i0, hi, hz0, hz1, hz2⟩ := info_parts Tryd.infoInt
  have CP := Lib.hid (fun W => specParts s W hs)
  have CT := Lib.hid (fun p W (h : p ∈ parts s) => specTextNum p W (Nat.le_trans (parts_size s p h) hs))
  have hpl := parts_length s
  have HYES := Lib.hid (fun h => nums_yes (s := s) h)
  have HNO := Lib.hid (fun p h1 h2 => nums_no (s := s) (p := p) h1 h2)
  obtain ⟨R, hR⟩ : ∃ R, numsOf s = R := ⟨_, rfl⟩
  rw [hR] at HYES HNO ⊢
  unfold PartsRes at CP
  have hpos := parts_pos s
  generalize parts s = ps at CP CT hpl HYES HNO hpos
  obtain ⟨n, hn⟩ : ∃ n, n = ps.length := ⟨_, rfl⟩
  rw [← hn] at CP hpl hpos
  have HN := Lib.hid hn
  clear hn hR
  go_enter Tryd.func16, Tryd.ntmps16
  have ho0 : Hid ((w.alloc (.cells #[] 3)).ownsRow w.heap.size 3 1 (.slice (some ⟨w.heap.size, 0, none⟩) 0 0) ([] : List Int).length (vi [])) := Lib.hid (World.ownsRow_lit w #[] 0 (Nat.le_refl _) (by unfold maxLen; omega) rfl)
  have hb0 : Below w.heap.size w (w.alloc (.cells #[] 3)) := (Below.refl _ _).alloc (Nat.le_refl _) _
  go_wp2_with fail
  refine (CP.out _).mono ?_
  rintro e w1 ⟨P, c, rfl, hop, hb1⟩
  have hR1 := RdS.of_own hop
  have hlt1 := hR1.lt hpos
  have hown1 := Lib.hid (own_below ho0.out hb1)
  have HB1 := Lib.hid (g_chain hb0 hb1)
  have hA1 : AwayV P (.slice (some ⟨w.heap.size, 0, none⟩) 0 0) := by
    intro b off sp e he
    have h1 := (hop.lt b (by rw [e]; rfl)).1
    simp [Value.ownBlock] at he
    simp at h1
    omega
  have HR1 := Lib.hid hR1
  have HA1 := Lib.hid hA1
  clear hop hb1 hR1 hA1 ho0 hb0 hlt1
  go_wp2
  go_loopw [3, 12] (fun v t wr => ∃ (k : Nat) (acc : List Int), k ≤ n ∧ t = .int .i64 (k : Int) ∧ acc = (ps.take k).map valB ∧ Hid (∀ p ∈ ps.take k, numB p = true) ∧ Hid (wr.ownsRow w.heap.size 3 1 v acc.length (vi acc)) ∧ Hid (RdS wr P n ps) ∧ Hid (AwayV P v) ∧ Hid (Below w.heap.size w wr)) (fun _ t _ => n - (intOf t).toNat)
  case atStart => exact ⟨0, [], by omega, rfl, rfl, Lib.hid (by simp), hown1, HR1, HA1, HB1⟩
  case round =>
    clear hown1 HR1 HA1 HB1
    obtain ⟨k, acc, hk, rfl, hacc, hall, hown, hrd, haw, hbel⟩ := hrel
    by_cases hlt : k < n
    · obtain ⟨b, off, p, rfl, hbw, hp, c0⟩ := hrd.out.at_ hlt
      have hmem : p ∈ ps := List.mem_of_getElem? hp.out
      have CP1 := Lib.hid (fun W => CT.out p W hmem)
      have hal : acc.length = k := by rw [hacc, List.length_map, List.length_take, ← HN.out]; omega
      have HACC := Lib.hid hacc
      clear hacc
      cases hv : numB p with
      | false =>
        have HV : Hid (R = []) := Lib.hid (HNO.out p hmem hv)
        have HT := Lib.hid (tnVal_no _ (show tn p.data.toList = false from hv))
        rw [HT.out] at CP1
        clear hv
        go_wp2_with fail
        refine (CP1.out _).mono ?_
        rintro e w2 ⟨rfl, hb2⟩
        go_wp2
        go_ret
        rw [HV.out]
        exact ⟨none, 0, rfl, World.ownsRow_nil _ _ _ _, g_chain hbel.out hb2⟩
      | true =>
        have HT := Lib.hid (tnVal_yes _ (show tn p.data.toList = true from hv))
        rw [HT.out] at CP1
        have HALL2 : Hid (∀ p ∈ ps.take (k + 1), numB p = true) := Lib.hid (by
          intro q hq
          rw [g_take ps k p hp.out] at hq
          rcases List.mem_append.1 hq with hq | hq
          · exact hall.out q hq
          · rw [List.mem_singleton.1 hq]; exact hv)
        have HAC2 : Hid (acc ++ [valB p] = (ps.take (k + 1)).map valB) := Lib.hid (by rw [HACC.out, g_take ps k p hp.out, List.map_append]; rfl)
        have hvb : (val10 p.data.toList : Int) = valB p := rfl
        rw [hvb] at CP1
        generalize valB p = x at CP1 HAC2
        clear hv hvb
        go_wp2_with fail
        refine (CP1.out _).mono ?_
        rintro e w2 ⟨rfl, hb2⟩
        have hown2 := Lib.hid (own_below hown.out hb2)
        have hrd2 := Lib.hid (hrd.out.below hb2)
        have hbel2 := Lib.hid (g_chain hbel.out hb2)
        clear hown hrd hbel hb2 c0
        go_wp2_with (at_builtin; refine wpList_append_any _ rfl (.tmp 23) (.tmp 25) 33 rfl w.heap.size 3 i0 _ 1 8 Tryd.underlying33 hi hz0 hz1 hz2 rfl (by omega) _ acc.length (vi acc) rfl (hown2.out.alloc _) (w2.heap.size + 1) (some ⟨w2.heap.size, 0, none⟩) 1 1 [.int .i64 x] rfl (r_reads _ _ _ _ rfl) (r_one _) (by simp only [maxLen]; omega) (by omega) (by have := hbel2.out.size; simp; omega) ?_; intro v3 w3 hown3 hg3 hat3)
        go_roundw
        case rel =>
          refine ⟨k + 1, acc ++ [x], by omega, by go_num, HAC2.out, HALL2, Lib.hid (by rw [r_snoc, List.length_append]; exact hown3), Lib.hid ((hrd2.out.below (below_a1 _ _)).other hg3 haw.out), Lib.hid (haw.out.step ?_ hat3), Lib.hid ((g_chain hbel2.out (below_a1 _ _)).grown hg3 (by have := hbel2.out.size; simp; omega) (fun j hj => (hown2.out.lt j hj).1))⟩
          intro b1 o1 s1 h1
          exact (hrd2.out.below (below_a1 _ _)).lt (by omega) b1 o1 s1 h1
        case measure => simp [intOf]; omega
    · obtain rfl : k = n := by omega
      have htk : ps.take k = ps := List.take_of_length_le (by rw [← HN.out]; exact Nat.le_refl _)
      have HV : Hid (R = acc) := Lib.hid (by rw [hacc, htk]; exact HYES.out (by rw [htk] at hall; exact hall.out))
      obtain ⟨A2, c2, rfl⟩ := own_form hown.out
      clear hacc
      go_wp2
      go_ret
      rw [HV.out]
      exact ⟨A2, c2, rfl, hown.out, hbel.out⟩
end Go.Proofs.YtggfjnmplokccaaDoor
