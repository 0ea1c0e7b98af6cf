/- The contracts of the functions that encode a frame: the model's and the program's. -/
import Derived.Test.YtmlfhjkogcabiaaFrBox
import Derived.Test.YtmlfhjkogcabiaaPutFixSpec
import Derived.Test.YtmlfhjkogcabiaaPutFixImpl
import Derived.Test.YtmlfhjkogcabiaaCrcSpec
import Derived.Test.YtmlfhjkogcabiaaCrcImpl
namespace Go.Proofs.Ytmlfhjkogcabiaa
open Go.RowKit

def crcV (xs : List Nat) : Nat := crcAll xs ^^^ 4294967295
theorem crcV_lt (xs : List Nat) (hs : ∀ x ∈ xs, x < 256) : crcV xs < 4294967296 := by
  have h := crcAll_lt xs hs xs.length
  rw [List.take_length] at h
  exact xor_lt32 h (by omega)
theorem fixByte_lt (m j : Nat) : fixByte m j < 256 := Nat.mod_lt _ (by omega)
theorem fixBytes_small (m j : Nat) : ∀ x ∈ fixBytes m j, x < 256 := by
  intro x hx
  obtain ⟨i, _, rfl⟩ := List.mem_map.1 hx
  exact fixByte_lt m i
theorem more_small {l : List Nat} (h : ∀ x ∈ l, x < 256) (m : Nat) : ∀ x ∈ l ++ fixBytes m 6, x < 256 := fun x hx => by
  rcases List.mem_append.1 hx with hx | hx
  · exact h x hx
  · exact fixBytes_small m 6 x hx
theorem head_small {k : Nat} (hk : k < 256) (m : Nat) : ∀ x ∈ [71, k] ++ fixBytes m 6, x < 256 := more_small (by intro x hx; simp at hx; omega) m
/-- The encoding of a frame. -/
def frB (kind : Int) (xs : List Nat) : List Nat :=
  if frOk kind xs.length then ((([71, kind.toNat] ++ fixBytes xs.length 6) ++ fixBytes (crcV ([71, kind.toNat] ++ fixBytes xs.length 6)) 6) ++ fixBytes (crcV xs) 6) ++ xs else []
theorem frB_small (kind : Int) (xs : List Nat) (hs : ∀ x ∈ xs, x < 256) : ∀ x ∈ frB kind xs, x < 256 := by
  unfold frB
  split
  · rename_i hok
    have hk : kind.toNat < 256 := by
      unfold frOk at hok
      simp only [Bool.and_eq_true, decide_eq_true_eq] at hok
      omega
    intro x hx
    rcases List.mem_append.1 hx with hx | hx
    · exact more_small (more_small (head_small hk _) _) _ x hx
    · exact hs x hx
  · simp
theorem frB_len (kind : Int) (xs : List Nat) : (frB kind xs).length ≤ 20 + xs.length := by
  unfold frB
  split
  · simp [fixBytes_length]; omega
  · simp

set_option maxRecDepth 10000 in
set_option maxHeartbeats 4000000 in
theorem specFrBytes (kind : Int) (d : Dat) (w : World) (hd : d.Ok w) (hn : d.n ≤ 1048576) :
    Calls Try.prog 80 #[.agg #[.int .i64 kind, .slice d.A d.n d.c]] w (PutRes w (frOk kind d.n) (frB kind d.xs)) := by
  obtain ⟨j0, hj, hy0, hy1, hy2⟩ := info_parts Try.infoByte
  have C0 := Lib.hid (fun W => specFrOk kind d.A d.n d.c W hn)
  have hxl : d.xs.length = d.n := hd.rd.len
  have HSM := Lib.hid hd.rd.small
  have HD := Lib.hid hd
  have B0 := Lib.hid (Box2.new w (.int .i64 kind) (.slice d.A d.n d.c) 45)
  by_cases hok : frOk kind d.n = true
  · have hk : 1 ≤ kind ∧ kind ≤ 3 ∧ d.n ≤ 60000 := by
      unfold frOk at hok
      simp only [Bool.and_eq_true, decide_eq_true_eq] at hok
      omega
    obtain ⟨hk1, hk3, hn6⟩ := hk
    rw [hok] at C0 ⊢
    obtain ⟨kk, rfl⟩ : ∃ kk : Nat, kind = (kk : Int) := ⟨kind.toNat, by omega⟩
    have HV : Hid (frB (kk : Int) d.xs = ((([71, kk] ++ fixBytes d.n 6) ++ fixBytes (crcV ([71, kk] ++ fixBytes d.n 6)) 6) ++ fixBytes (crcV d.xs) 6) ++ d.xs) := Lib.hid (by
      have : frOk (kk : Int) d.xs.length = true := by rw [hxl]; exact hok
      unfold frB
      rw [if_pos this, hxl, Int.toNat_natCast])
    generalize frB (kk : Int) d.xs = all at HV ⊢
    have hcv : IntKind.u8.wrap (kk : Int) = (kk : Int) := IntWalk.u8_in _ (by omega)
    have hv1 : crcV d.xs ≤ 281474976710655 := by have := crcV_lt d.xs HSM.out; omega
    have CD := Lib.hid (fun W (hb : Below w.heap.size w W) => specCrc d.A d.n d.c d.xs W (HD.out.rd.below hb) (by omega))
    clear hok hd
    go_enter Try.func80, Try.ntmps80
    go_wp2_with fail
    refine (C0.out _).mono ?_
    rintro e w1 ⟨rfl, hb1⟩
    have B1 := Lib.hid (B0.out.below hb1)
    have HB1 := Lib.hid (fr_chain (below_a1 w _) hb1)
    clear hb1
    obtain ⟨l0, x0, x1⟩ := B1.out
    have hrd2 : Rd (w1.alloc (.cells #[.int .u8 71, .int .u8 (kk : Int)] 5)) (some ⟨w1.heap.size, 0, none⟩) 2 [71, kk] := by
      refine ⟨rfl, by intro x hx; simp at hx; omega, fun _ => ⟨w1.heap.size, 0, rfl, by simp, fun j x hx => ?_⟩⟩
      have hj2 : j < 2 := by have := (List.getElem?_eq_some_iff.1 hx).1; simpa using this
      rcases (show j = 0 ∨ j = 1 by omega) with rfl | rfl
      · simp at hx; subst hx; simp
      · simp at hx; subst hx; simp
    have CP1 := Lib.hid (specPutFix_yes (some ⟨w1.heap.size, 0, none⟩) 2 2 d.n [71, kk] (w1.alloc (.cells #[.int .u8 71, .int .u8 (kk : Int)] 5)) hrd2 (by omega) (by omega))
    have HH : Hid (([71, kk] ++ fixBytes d.n 6).length = 8) := Lib.hid (by simp [fixBytes_length])
    have HSM8 : Hid (∀ x ∈ [71, kk] ++ fixBytes d.n 6, x < 256) := Lib.hid (head_small (by omega) d.n)
    generalize hh8 : [71, kk] ++ fixBytes d.n 6 = h8 at CP1 HV HH HSM8
    have hv8 : crcV h8 ≤ 281474976710655 := by have := crcV_lt h8 HSM8.out; omega
    clear hh8 hrd2
    go_wp2_with fail
    refine CP1.out.mono ?_
    rintro e w2 ⟨A2, c2, rfl, ho2, hb2⟩
    rw [HH.out] at ho2
    have HB2 := Lib.hid (fr_chain HB1.out (fr_chain (below_a1 w1 _) hb2))
    have hrd8 : Rd w2 A2 8 h8 := Rd.of_own (by rw [← HH.out] at ho2 ⊢; exact ho2) HSM8.out
    have B2 := Lib.hid (B1.out.below (fr_chain (below_a1 w1 _) hb2))
    have HR8 := Lib.hid hrd8
    have CC := Lib.hid (specCrc A2 8 c2 h8 w2 hrd8 (by omega))
    clear hb2 ho2 hrd8 l0 x0 x1
    obtain ⟨l0, x0, x1⟩ := B2.out
    rw [HH.out]
    go_wp2_with fail
    refine CC.out.mono ?_
    rintro e w3 ⟨rfl, rfl⟩
    have HC3 : Hid (Below w2.heap.size w2 w2) := Lib.hid (Below.refl _ _)
    have B3 := Lib.hid (B2.out.below HC3.out)
    have CP2 := Lib.hid (specPutFix_yes A2 8 c2 (crcV h8) h8 w2 (HR8.out.below HC3.out) (by omega) hv8)
    have HB3 := Lib.hid (fr_chain HB2.out HC3.out)
    have HH14 : Hid ((h8 ++ fixBytes (crcV h8) 6).length = 14) := Lib.hid (by simp [fixBytes_length, HH.out])
    have HSM14 : Hid (∀ x ∈ h8 ++ fixBytes (crcV h8) 6, x < 256) := Lib.hid (more_small HSM8.out _)
    rw [show (crcAll h8 ^^^ 4294967295 : Nat) = crcV h8 from rfl]
    generalize hg14 : h8 ++ fixBytes (crcV h8) 6 = h14 at CP2 HV HH14 HSM14
    clear hg14 l0 x0 x1
    obtain ⟨l0, x0, x1⟩ := B3.out
    go_wp2_with fail
    refine CP2.out.mono ?_
    rintro e w4 ⟨A4, c4, rfl, ho4, hb4⟩
    have HB4 := Lib.hid (fr_chain HB3.out hb4)
    have hrd14 : Rd w4 A4 14 h14 := by have := Rd.of_own ho4 HSM14.out; rw [HH14.out] at this; exact this
    have B4 := Lib.hid (B3.out.below hb4)
    have HR14 := Lib.hid hrd14
    clear hb4 ho4 hrd14 l0 x0 x1
    obtain ⟨l0, x0, x1⟩ := B4.out
    rw [HH14.out]
    go_wp2_with fail
    refine (CD.out _ HB4.out).mono ?_
    rintro e w5 ⟨rfl, rfl⟩
    have HC5 : Hid (Below w4.heap.size w4 w4) := Lib.hid (Below.refl _ _)
    have B5 := Lib.hid (B4.out.below HC5.out)
    have CP3 := Lib.hid (specPutFix_yes A4 14 c4 (crcV d.xs) h14 w4 (HR14.out.below HC5.out) (by omega) hv1)
    have HB5 := Lib.hid (fr_chain HB4.out HC5.out)
    have HH20 : Hid ((h14 ++ fixBytes (crcV d.xs) 6).length = 20) := Lib.hid (by simp [fixBytes_length, HH14.out])
    have HSM20 : Hid (∀ x ∈ h14 ++ fixBytes (crcV d.xs) 6, x < 256) := Lib.hid (more_small HSM14.out _)
    rw [show (crcAll d.xs ^^^ 4294967295 : Nat) = crcV d.xs from rfl]
    generalize hg20 : h14 ++ fixBytes (crcV d.xs) 6 = h20 at CP3 HV HH20 HSM20
    clear hg20 l0 x0 x1
    obtain ⟨l0, x0, x1⟩ := B5.out
    go_wp2_with fail
    refine CP3.out.mono ?_
    rintro e w6 ⟨A6, c6, rfl, ho6, hb6⟩
    have HB6 := Lib.hid (fr_chain HB5.out hb6)
    have B6 := Lib.hid (B5.out.below hb6)
    have HO6 : Hid (w6.ownsRow w4.heap.size 5 1 (.slice A6 20 c6) 20 (vb h20)) := Lib.hid (by rw [HH20.out] at ho6; exact ho6)
    have hle : w.heap.size ≤ w4.heap.size := HB5.out.size
    have hle6 : w4.heap.size ≤ w6.heap.size := hb6.size
    clear hb6 ho6 l0 x0 x1
    obtain ⟨l0, x0, x1⟩ := B6.out
    rw [HH20.out]
    go_wp2_with (at_builtin; refine wpList_append_any _ rfl (.tmp 35) (.tmp 37) _ rfl w4.heap.size 5 j0 _ 1 1 Try.underlying22 hj hy0 hy1 hy2 rfl (by omega) (.slice A6 20 c6) 20 (vb h20) rfl HO6.out w6.heap.size d.A d.n d.c (vb d.xs) rfl (HD.out.rd.below HB6.out).reads (vb_oneCell _) (by simp only [maxLen]; omega) (by omega) hle6 ?_; intro v7 w7 hown7 hg7 hat7; rw [← vb_append] at hown7; obtain ⟨A7, c7, hv7⟩ := own_form hown7; subst hv7)
    go_ret2
    have hlen : (h20 ++ d.xs).length = 20 + d.n := by rw [List.length_append, HH20.out, hxl]
    rw [HV.out]
    exact ⟨A7, c7, by rw [hlen]; rfl, by rw [hlen]; exact base_row hown7 hle, HB6.out.grown hg7 HB6.out.size (fun j hj => by have := (HO6.out.lt j hj).1; omega)⟩
  · have hno : frOk kind d.n = false := by simpa using hok
    rw [hno] at C0 ⊢
    have HV : Hid (frB kind d.xs = []) := Lib.hid (by
      unfold frB
      rw [hxl, hno]
      rfl)
    generalize frB kind d.xs = all at HV ⊢
    clear hok hno hd
    go_enter Try.func80, Try.ntmps80
    go_wp2_with fail
    refine (C0.out _).mono ?_
    rintro e w1 ⟨rfl, hb1⟩
    go_wp2
    go_ret2
    rw [HV.out]
    exact ⟨none, 0, rfl, World.ownsRow_nil _ _ _ _, fr_chain (below_a1 w _) hb1⟩

set_option maxRecDepth 10000 in
set_option maxHeartbeats 4000000 in
theorem implFrBytes (kind : Int) (d : Dat) (w : World) (hd : d.Ok w) (hn : d.n ≤ 1048576) :
    Calls Try.prog 18 #[.agg #[.int .i64 kind, .slice d.A d.n d.c]] w (PutRes w (frOk kind d.n) (frB kind d.xs)) := by
  obtain ⟨j0, hj, hy0, hy1, hy2⟩ := info_parts Try.infoByte
  have C0 := Lib.hid (fun W => implFrOk kind d.A d.n d.c W hn)
  have hxl : d.xs.length = d.n := hd.rd.len
  have HSM := Lib.hid hd.rd.small
  have HD := Lib.hid hd
  have B0 := Lib.hid (Box2.new w (.int .i64 kind) (.slice d.A d.n d.c) 45)
  by_cases hok : frOk kind d.n = true
  · have hk : 1 ≤ kind ∧ kind ≤ 3 ∧ d.n ≤ 60000 := by
      unfold frOk at hok
      simp only [Bool.and_eq_true, decide_eq_true_eq] at hok
      omega
    obtain ⟨hk1, hk3, hn6⟩ := hk
    rw [hok] at C0 ⊢
    obtain ⟨kk, rfl⟩ : ∃ kk : Nat, kind = (kk : Int) := ⟨kind.toNat, by omega⟩
    have HV : Hid (frB (kk : Int) d.xs = ((([71, kk] ++ fixBytes d.n 6) ++ fixBytes (crcV ([71, kk] ++ fixBytes d.n 6)) 6) ++ fixBytes (crcV d.xs) 6) ++ d.xs) := Lib.hid (by
      have : frOk (kk : Int) d.xs.length = true := by rw [hxl]; exact hok
      unfold frB
      rw [if_pos this, hxl, Int.toNat_natCast])
    generalize frB (kk : Int) d.xs = all at HV ⊢
    have hcv : IntKind.u8.wrap (kk : Int) = (kk : Int) := IntWalk.u8_in _ (by omega)
    have hv1 : crcV d.xs ≤ 281474976710655 := by have := crcV_lt d.xs HSM.out; omega
    have CD := Lib.hid (fun W (hb : Below w.heap.size w W) => implCrc d.A d.n d.c d.xs W (HD.out.rd.below hb) (by omega))
    clear hok hd
    go_enter Try.func18, Try.ntmps18
    go_wp2_with fail
    refine (C0.out _).mono ?_
    rintro e w1 ⟨rfl, hb1⟩
    have B1 := Lib.hid (B0.out.below hb1)
    have HB1 := Lib.hid (fr_chain (below_a1 w _) hb1)
    clear hb1
    obtain ⟨l0, x0, x1⟩ := B1.out
    have hrd2 : Rd (w1.alloc (.cells #[.int .u8 71, .int .u8 (kk : Int)] 5)) (some ⟨w1.heap.size, 0, none⟩) 2 [71, kk] := by
      refine ⟨rfl, by intro x hx; simp at hx; omega, fun _ => ⟨w1.heap.size, 0, rfl, by simp, fun j x hx => ?_⟩⟩
      have hj2 : j < 2 := by have := (List.getElem?_eq_some_iff.1 hx).1; simpa using this
      rcases (show j = 0 ∨ j = 1 by omega) with rfl | rfl
      · simp at hx; subst hx; simp
      · simp at hx; subst hx; simp
    have CP1 := Lib.hid (implPutFix_yes (some ⟨w1.heap.size, 0, none⟩) 2 2 d.n [71, kk] (w1.alloc (.cells #[.int .u8 71, .int .u8 (kk : Int)] 5)) hrd2 (by omega) (by omega))
    have HH : Hid (([71, kk] ++ fixBytes d.n 6).length = 8) := Lib.hid (by simp [fixBytes_length])
    have HSM8 : Hid (∀ x ∈ [71, kk] ++ fixBytes d.n 6, x < 256) := Lib.hid (head_small (by omega) d.n)
    generalize hh8 : [71, kk] ++ fixBytes d.n 6 = h8 at CP1 HV HH HSM8
    have hv8 : crcV h8 ≤ 281474976710655 := by have := crcV_lt h8 HSM8.out; omega
    clear hh8 hrd2
    go_wp2_with fail
    refine CP1.out.mono ?_
    rintro e w2 ⟨A2, c2, rfl, ho2, hb2⟩
    rw [HH.out] at ho2
    have HB2 := Lib.hid (fr_chain HB1.out (fr_chain (below_a1 w1 _) hb2))
    have hrd8 : Rd w2 A2 8 h8 := Rd.of_own (by rw [← HH.out] at ho2 ⊢; exact ho2) HSM8.out
    have B2 := Lib.hid (B1.out.below (fr_chain (below_a1 w1 _) hb2))
    have HR8 := Lib.hid hrd8
    have CC := Lib.hid (implCrc A2 8 c2 h8 w2 hrd8 (by omega))
    clear hb2 ho2 hrd8 l0 x0 x1
    obtain ⟨l0, x0, x1⟩ := B2.out
    rw [HH.out]
    go_wp2_with fail
    refine CC.out.mono ?_
    rintro e w3 ⟨rfl, hbc⟩
    have HC3 := Lib.hid hbc
    clear hbc
    have B3 := Lib.hid (B2.out.below HC3.out)
    have CP2 := Lib.hid (implPutFix_yes A2 8 c2 (crcV h8) h8 w3 (HR8.out.below HC3.out) (by omega) hv8)
    have HB3 := Lib.hid (fr_chain HB2.out HC3.out)
    have HH14 : Hid ((h8 ++ fixBytes (crcV h8) 6).length = 14) := Lib.hid (by simp [fixBytes_length, HH.out])
    have HSM14 : Hid (∀ x ∈ h8 ++ fixBytes (crcV h8) 6, x < 256) := Lib.hid (more_small HSM8.out _)
    rw [show (crcAll h8 ^^^ 4294967295 : Nat) = crcV h8 from rfl]
    generalize hg14 : h8 ++ fixBytes (crcV h8) 6 = h14 at CP2 HV HH14 HSM14
    clear hg14 l0 x0 x1
    obtain ⟨l0, x0, x1⟩ := B3.out
    go_wp2_with fail
    refine CP2.out.mono ?_
    rintro e w4 ⟨A4, c4, rfl, ho4, hb4⟩
    have HB4 := Lib.hid (fr_chain HB3.out hb4)
    have hrd14 : Rd w4 A4 14 h14 := by have := Rd.of_own ho4 HSM14.out; rw [HH14.out] at this; exact this
    have B4 := Lib.hid (B3.out.below hb4)
    have HR14 := Lib.hid hrd14
    clear hb4 ho4 hrd14 l0 x0 x1
    obtain ⟨l0, x0, x1⟩ := B4.out
    rw [HH14.out]
    go_wp2_with fail
    refine (CD.out _ HB4.out).mono ?_
    rintro e w5 ⟨rfl, hbc⟩
    have HC5 := Lib.hid hbc
    clear hbc
    have B5 := Lib.hid (B4.out.below HC5.out)
    have CP3 := Lib.hid (implPutFix_yes A4 14 c4 (crcV d.xs) h14 w5 (HR14.out.below HC5.out) (by omega) hv1)
    have HB5 := Lib.hid (fr_chain HB4.out HC5.out)
    have HH20 : Hid ((h14 ++ fixBytes (crcV d.xs) 6).length = 20) := Lib.hid (by simp [fixBytes_length, HH14.out])
    have HSM20 : Hid (∀ x ∈ h14 ++ fixBytes (crcV d.xs) 6, x < 256) := Lib.hid (more_small HSM14.out _)
    rw [show (crcAll d.xs ^^^ 4294967295 : Nat) = crcV d.xs from rfl]
    generalize hg20 : h14 ++ fixBytes (crcV d.xs) 6 = h20 at CP3 HV HH20 HSM20
    clear hg20 l0 x0 x1
    obtain ⟨l0, x0, x1⟩ := B5.out
    go_wp2_with fail
    refine CP3.out.mono ?_
    rintro e w6 ⟨A6, c6, rfl, ho6, hb6⟩
    have HB6 := Lib.hid (fr_chain HB5.out hb6)
    have B6 := Lib.hid (B5.out.below hb6)
    have HO6 : Hid (w6.ownsRow w5.heap.size 5 1 (.slice A6 20 c6) 20 (vb h20)) := Lib.hid (by rw [HH20.out] at ho6; exact ho6)
    have hle : w.heap.size ≤ w5.heap.size := HB5.out.size
    have hle6 : w5.heap.size ≤ w6.heap.size := hb6.size
    clear hb6 ho6 l0 x0 x1
    obtain ⟨l0, x0, x1⟩ := B6.out
    rw [HH20.out]
    go_wp2_with (at_builtin; refine wpList_append_any _ rfl (.tmp 37) (.tmp 39) _ rfl w5.heap.size 5 j0 _ 1 1 Try.underlying22 hj hy0 hy1 hy2 rfl (by omega) (.slice A6 20 c6) 20 (vb h20) rfl HO6.out w6.heap.size d.A d.n d.c (vb d.xs) rfl (HD.out.rd.below HB6.out).reads (vb_oneCell _) (by simp only [maxLen]; omega) (by omega) hle6 ?_; intro v7 w7 hown7 hg7 hat7; rw [← vb_append] at hown7; obtain ⟨A7, c7, hv7⟩ := own_form hown7; subst hv7)
    go_ret2
    have hlen : (h20 ++ d.xs).length = 20 + d.n := by rw [List.length_append, HH20.out, hxl]
    rw [HV.out]
    exact ⟨A7, c7, by rw [hlen]; rfl, by rw [hlen]; exact base_row hown7 hle, HB6.out.grown hg7 HB6.out.size (fun j hj => by have := (HO6.out.lt j hj).1; omega)⟩
  · have hno : frOk kind d.n = false := by simpa using hok
    rw [hno] at C0 ⊢
    have HV : Hid (frB kind d.xs = []) := Lib.hid (by
      unfold frB
      rw [hxl, hno]
      rfl)
    generalize frB kind d.xs = all at HV ⊢
    clear hok hno hd
    go_enter Try.func18, Try.ntmps18
    go_wp2_with fail
    refine (C0.out _).mono ?_
    rintro e w1 ⟨rfl, hb1⟩
    go_wp2
    go_ret2
    rw [HV.out]
    exact ⟨none, 0, rfl, World.ownsRow_nil _ _ _ _, fr_chain (below_a1 w _) hb1⟩
end Go.Proofs.Ytmlfhjkogcabiaa
