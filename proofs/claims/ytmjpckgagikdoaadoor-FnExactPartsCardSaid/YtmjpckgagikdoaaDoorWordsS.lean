/- Words for slices of strings: 'RdS w A n ss': the slice at A of length n reads in w as the strings ss. The contracts of the law's helper that makes a mark as a text, and of the ones that compare, mark and look for marks in slices of strings. Condition: at most 2^21 strings. -/
import Derived.Test.YtmjpckgagikdoaaDoorBase
import Derived.Test.YtmjpckgagikdoaaDoorAppend
import Derived.Test.YtmjpckgagikdoaaDoorConv
import Derived.Test.YtmjpckgagikdoaaDoorTextMath
import Derived.Test.YtmjpckgagikdoaaDoorNumText
import Derived.Deep.RegionWith
namespace Go.Proofs.YtmjpckgagikdoaaDoor
open Go.RowKit

theorem Tryd.infoStr : (Tryd.prog.info? 9).map (fun i => (i.zero, i.size, i.bytes)) = some (some (.string ByteArray.empty), 1, 16) := by kernel_rfl
def vs (ss : List ByteArray) : List Value := ss.map Value.string
theorem vs_length (ss : List ByteArray) : (vs ss).length = ss.length := by simp [vs]
theorem vs_append (a b : List ByteArray) : vs (a ++ b) = vs a ++ vs b := by simp [vs]
theorem vs_get (ss : List ByteArray) (j : Nat) : (vs ss)[j]? = (ss[j]?).map Value.string := by simp [vs]

structure RdS (w : World) (A : Option Addr) (n : Nat) (ss : List ByteArray) : Prop where
  len : ss.length = n
  lies : 0 < n → ∃ b off, A = some ⟨b, off, none⟩ ∧ b < w.heap.size ∧ ∀ (j : Nat) (s : ByteArray), ss[j]? = some s → w.cell? ⟨b, off + j, none⟩ = some (.string s)

section
variable {w w' : World} {A : Option Addr} {n : Nat} {ss : List ByteArray}
theorem RdS.at_ {k : Nat} (h : RdS w A n ss) (hk : k < n) : ∃ (b off : Nat) (s : ByteArray), A = some ⟨b, off, none⟩ ∧ b < w.heap.size ∧ Hid (ss[k]? = some s) ∧ w.cell? ⟨b, off + k, none⟩ = some (.string s) := by
  obtain ⟨b, off, rfl, hb, hc⟩ := h.lies (by omega)
  have hl : k < ss.length := by have := h.len; omega
  exact ⟨b, off, ss[k], rfl, hb, List.getElem?_eq_getElem hl, hc k _ (List.getElem?_eq_getElem hl)⟩
theorem RdS.keep (h : RdS w A n ss) (hs : w.heap.size ≤ w'.heap.size) (hk : ∀ p : Addr, p.block < w.heap.size → w'.cell? p = w.cell? p) : RdS w' A n ss :=
  ⟨h.len, fun hn => by
    obtain ⟨b, off, e, hb, hc⟩ := h.lies hn
    exact ⟨b, off, e, by omega, fun j u hu => (hk _ hb).trans (hc j u hu)⟩⟩
theorem RdS.below (h : RdS w A n ss) (hb : Below w.heap.size w w') : RdS w' A n ss := h.keep hb.size fun _ hp => hb.cell hp
theorem RdS.drewN (h : RdS w A n ss) (k : Nat) : RdS (w.drewN k) A n ss := ⟨h.len, h.lies⟩
theorem RdS.other {row : Option Nat} (h : RdS w A n ss) (hg : w.grownBy w' row) (hr : ∀ b off sp, A = some ⟨b, off, sp⟩ → some b ≠ row) : RdS w' A n ss :=
  ⟨h.len, fun hn => by
    obtain ⟨b, off, e, hb, hc⟩ := h.lies hn
    have := hg.size
    exact ⟨b, off, e, by omega, fun j u hu => (World.cell?_of_block (hg.block b hb (hr _ _ _ e))).trans (hc j u hu)⟩⟩
theorem RdS.of_own {base e c : Nat} (h : w.ownsRow base e 1 (.slice A n c) n (vs ss)) : RdS w A n ss := by
  have hl : ss.length = n := by have := h.1; rw [vs_length] at this; omega
  refine ⟨hl, fun hn => ?_⟩
  obtain ⟨g, cap, hv, _, hlt⟩ := h.form hn
  have hA : A = some ⟨g, 0, none⟩ := by injection hv
  subst hA
  refine ⟨g, 0, rfl, hlt, fun j u hu => ?_⟩
  have := h.cells (g := g) rfl j (.string u) (by rw [vs_get, hu]; rfl)
  have hx : ((⟨g, 0, none⟩ : Addr).add j) = ⟨g, 0 + j, none⟩ := by unfold Addr.add; split <;> simp_all
  rw [hx] at this
  exact this
end

/-- The text of a mark. -/
def mt (k : Nat) : ByteArray := ⟨(109 :: Lib.decDigits k).toArray⟩
def dd (r : Nat) : List UInt8 := if r = 0 then [] else Lib.decDigits r
theorem dd_step (r : Nat) (h : 0 < r) : dd r = dd (r / 10) ++ [UInt8.ofNat (48 + r % 10)] := by
  unfold dd
  rw [if_neg (by omega), Lib.decDigits]
  split
  · rename_i h10
    rw [if_pos (by omega), Nat.mod_eq_of_lt h10]
    rfl
  · rw [if_neg (by omega)]

set_option maxRecDepth 10000 in
set_option maxHeartbeats 1000000 in
theorem markText_any (k : Nat) (w : World) (h0 : 0 < k) (hk : k ≤ 4194304) : Calls Tryd.prog 33 #[.int .i64 (k : Int)] w fun e w' => e = .returned (.string (mt k)) ∧ Below w.heap.size w w' := by
  have hl16 := decDigits_le k (by omega)
  have hdk : Hid (dd k ++ [] = Lib.decDigits k) := by show _ = _; rw [List.append_nil, dd, if_neg (by omega)]
  have HM : Hid ((⟨#[109]⟩ : ByteArray) ++ ⟨(Lib.decDigits k).toArray⟩ = mt k) := by
    show _ = _
    unfold mt
    apply ByteArray.ext
    simp
  go_enter Tryd.func33, Tryd.ntmps33
  go_wp2
  go_loopw [0, 3] (fun t v wr => ∃ (r : Nat) (o : List UInt8), t = .int .i64 (r : Int) ∧ r ≤ 4194304 ∧ Hid (dd r ++ o = Lib.decDigits k) ∧ v = .string ⟨o.toArray⟩ ∧ Below w.heap.size w wr) (fun t _ _ => (intOf t).toNat)
  case atStart => exact ⟨k, [], rfl, hk, hdk, rfl, Below.refl _ _⟩
  case round =>
    obtain ⟨r, o, rfl, hr, hdd, rfl, hbel⟩ := hrel
    by_cases hpos : 0 < r
    · have hsz : o.length ≤ 16 := by have := congrArg List.length hdd.out; rw [List.length_append] at this; omega
      obtain ⟨O, hO⟩ : ∃ O : ByteArray, O = ⟨o.toArray⟩ := ⟨_, rfl⟩
      obtain ⟨D, hD⟩ : ∃ D : ByteArray, D = ⟨#[UInt8.ofNat (48 + r % 10)]⟩ := ⟨_, rfl⟩
      have hOs : O.size ≤ 16 := by rw [hO]; simpa [ByteArray.size] using hsz
      have hDs : D.size ≤ 16 := by rw [hD]; simp [ByteArray.size]
      have hDO : Hid (D ++ O = ⟨(UInt8.ofNat (48 + r % 10) :: o).toArray⟩) := by
        show _ = _
        rw [hO, hD]
        apply ByteArray.ext
        simp
      have hcv : ∀ W : World, W.cell? ⟨wr.heap.size, 0, none⟩ = some (.int .u8 (48 + (r : Int) % 10)) → (convert 22 9 (.slice (some ⟨wr.heap.size, 0, none⟩) 1 1)).run Tryd.prog W = .ok (.string D) W := fun W hc => by rw [hD]; exact conv_one W _ (48 + r % 10) (by omega) (by rw [hc]; rfl)
      have hst : Hid (dd (r / 10) ++ (UInt8.ofNat (48 + r % 10) :: o) = Lib.decDigits k) := by
        show _ = _
        rw [← hdd.out, dd_step r hpos, List.append_assoc]
        rfl
      rw [← hO]
      clear hO hD hsz hdd
      go_wp2
      go_roundw
      case rel => exact ⟨r / 10, _, by go_num, by omega, hst, by rw [hDO.out], hbel.alloc hbel.size _⟩
      case measure => simp [intOf]; omega
    · have ho : o = Lib.decDigits k := by have := hdd.out; rw [dd, if_pos (by omega)] at this; simpa using this
      have hsz : (⟨o.toArray⟩ : ByteArray).size ≤ 16 := by rw [ho]; simpa [ByteArray.size] using hl16
      rw [← ho] at HM
      generalize (⟨o.toArray⟩ : ByteArray) = O at HM hsz ⊢
      clear ho hdd
      go_wp2
      go_ret
      exact ⟨by rw [← HM.out]; rfl, hbel⟩
end Go.Proofs.YtmjpckgagikdoaaDoor
