/- The contract of the model's test for a number. // A slice of bytes as a string: what the conversion gives, and when two such strings are the same. // How many digits a number has. // The contract of the model's NumText: the decimal digits of a number. // A graph's text: the words. // A graph's text as data (no condition). // The contract of the program's test for a number. // The contract of the program's NumText, given that the library's table of powers of ten holds what its text lays; the walk of the law FnExactNumText under that condition. // strings.Builder at this translation: copyCheck (its panic, which the loader refuses, is never reached) and WriteString, walked by hand after the kit's own proofs of them. -/
import Derived.Test.YtmbabbapcjphgaaDoorCA1
import Derived.Test.YtmbabbapcjphgaaDoorRows
import Derived.Laws.BytesArg
import Derived.Shelf.Bytes.SlSmallAll
import Derived.Lib.SlBytesRow
import Derived.Lib.ItoaNum
import Derived.Deep.RegionWith
import Derived.Test.YtmbabbapcjphgaaDoorShelfItoa
import Derived.Sort.Grow
import Derived.Lib.Strings
import Derived.Lib.Slices
import Derived.Lib.Walk
import Derived.Lib.Builder
import Derived.Lib.AppendStr
import Derived.Lib.UnsafeStr
import Derived.WalkKit
import Derived.OwnWalk
import Derived.Laws.Externs
namespace Go.Proofs.YtmbabbapcjphgaaDoor
open Go.RowKit

theorem specNum_yes (n : Int) (w : World) (h0 : 0 ≤ n) (h1 : n ≤ 281474976710655) : Calls Tryd.prog 60 #[.int .i64 n] w fun e w' => e = .returned (.bool true) ∧ w = w' := by
  go_enter Tryd.func60, Tryd.ntmps60
  go_wp2
  go_ret
  exact ⟨rfl, rfl⟩

theorem specNum_no (n : Int) (w : World) (h : n < 0 ∨ 281474976710655 < n) : Calls Tryd.prog 60 #[.int .i64 n] w fun e w' => e = .returned (.bool false) ∧ w = w' := by
  rcases h with h | h
  · go_enter Tryd.func60, Tryd.ntmps60
    go_wp2
    go_ret
    exact ⟨rfl, rfl⟩
  · have h0 : 0 ≤ n := by omega
    have h2 : decide (n ≤ 281474976710655) = false := by simpa using h
    go_enter Tryd.func60, Tryd.ntmps60
    go_wp2
    go_ret
    exact ⟨rfl, rfl⟩
end Go.Proofs.YtmbabbapcjphgaaDoor
namespace Go.Proofs.YtmbabbapcjphgaaDoor
open Go.RowKit

def strB (xs : List Nat) : ByteArray := strOfNums (xs.map fun n : Nat => (n : Int))
theorem strB_toList (xs : List Nat) : (strB xs).toList = xs.map UInt8.ofNat := by
  rw [Go.ByteArray.toList_eq]
  unfold strB
  rw [strOfNums_data, List.map_map]
  rfl
theorem strB_inj (xs ys : List Nat) (hx : ∀ x ∈ xs, x < 256) (hy : ∀ x ∈ ys, x < 256) (h : (strB xs).toList = (strB ys).toList) : xs = ys := by
  rw [strB_toList, strB_toList] at h
  have e : ∀ l : List Nat, (∀ x ∈ l, x < 256) → (l.map UInt8.ofNat).map UInt8.toNat = l := by
    intro l hl
    rw [List.map_map]
    conv => rhs; rw [← List.map_id l]
    refine List.map_congr_left fun x hx => ?_
    have := hl x hx
    simp [Nat.mod_eq_of_lt this]
  rw [← e xs hx, ← e ys hy, h]
theorem strB_beq (xs ys : List Nat) (hx : ∀ x ∈ xs, x < 256) (hy : ∀ x ∈ ys, x < 256) : ((strB xs).toList == (strB ys).toList) = decide (xs = ys) := by
  by_cases h : xs = ys
  · subst h; simp
  · rw [decide_eq_false h, beq_eq_false_iff_ne]
    exact fun hc => h (strB_inj xs ys hx hy hc)

theorem conv_rd {w : World} {A : Option Addr} {n : Nat} {xs : List Nat} (c : Nat) (h : Rd w A n xs) : (convert 22 9 (.slice A n c)).run Tryd.prog w = .ok (.string (strB xs)) w := by
  rcases Nat.eq_zero_or_pos n with h0 | h0
  · subst h0
    obtain rfl : xs = [] := List.eq_nil_of_length_eq_zero h.len
    exact run_convert_bytes_zero w 22 5 Tryd.underlying22 Tryd.underlying5 A c 9 Tryd.underlying9
  · obtain ⟨b, off, rfl, hb, hc⟩ := h.lies h0
    refine run_convert_bytes_arg w 22 5 Tryd.underlying22 Tryd.underlying5 b off n c _ (by simp [h.len]) (fun i hi => ?_) 9 Tryd.underlying9
    have hl : i < xs.length := by rw [h.len]; exact hi
    rw [hc i xs[i] (List.getElem?_eq_getElem hl)]
    simp [List.getElem?_eq_getElem hl]
theorem byteSize (w : World) : (Go.sizeOf 5).run Tryd.prog w = .ok 1 w := by kernel_rfl
/-- 'b[lo:hi]' of a slice of bytes, lo below hi. -/
theorem window (w : World) (b off len cap lo m : Nat) (hi : Int) (he : hi = (lo : Int) + m) (hm : 0 < m) (hc : lo + m ≤ cap) :
    (Instr.slice 22 (.slice (some ⟨b, off, none⟩) len cap) (some (.int .i64 (lo : Int))) (some (.int .i64 hi)) none).run Tryd.prog w = .ok (.slice (some ⟨b, off + lo, none⟩) m (cap - lo)) w := by
  have h := Lib.run_slice_window (P := Tryd.prog) w 22 5 Tryd.underlying22 byteSize b off len cap lo (lo + m) (by omega) hc
  rw [Nat.add_sub_cancel_left, Int.natCast_add] at h
  rw [he]
  exact h
theorem Rd.cut {w : World} {b off n p m : Nat} {xs : List Nat} (h : Rd w (some ⟨b, off, none⟩) n xs) (hp : p + m ≤ n) : Rd w (some ⟨b, off + p, none⟩) m ((xs.drop p).take m) := by
  refine ⟨by rw [List.length_take, List.length_drop, h.len]; omega, fun x hx => h.small x (List.mem_of_mem_drop (List.mem_of_mem_take hx)), fun hm => ?_⟩
  obtain ⟨b', off', e, hb, hc⟩ := h.lies (by omega)
  injection e with e
  injection e with e1 e2
  subst e1 e2
  refine ⟨b, off + p, rfl, hb, fun j x hx => ?_⟩
  rw [List.getElem?_take] at hx
  split at hx
  · rw [List.getElem?_drop] at hx
    rw [Nat.add_assoc]
    exact hc _ x hx
  · cases hx
/-- A string of one byte, out of a new slice of it. -/
theorem conv_one (W : World) (g x : Nat) (hx : x < 256) (hc : W.cell? ⟨g, 0, none⟩ = some (.int .u8 (x : Int))) :
    (convert 22 9 (.slice (some ⟨g, 0, none⟩) 1 1)).run Tryd.prog W = .ok (.string ⟨#[UInt8.ofNat x]⟩) W := by
  have h := conv_rd (xs := [x]) 1 (A := some ⟨g, 0, none⟩) (n := 1) (w := W) ⟨rfl, by simpa using hx, fun _ => ⟨g, 0, rfl, World.block_lt_of_cell? W _ hc, fun j y hj => by
    match j, hj with
    | 0, hj => simp at hj; subst hj; exact hc⟩⟩
  exact h
end Go.Proofs.YtmbabbapcjphgaaDoor
namespace Go.Proofs.YtmbabbapcjphgaaDoor
open Go

theorem decDigits_len : ∀ (k u : Nat), u < 10 ^ (k + 1) → (Lib.decDigits u).length ≤ k + 1
  | 0, u, h => by rw [Lib.decDigits, dif_pos (by simpa using h)]; simp
  | k + 1, u, h => by
    rw [Lib.decDigits]
    split
    · simp
    · have := decDigits_len k (u / 10) (by rw [Nat.pow_succ] at h; omega)
      simp
      omega
theorem decDigits_le (u : Nat) (h : u ≤ 281474976710655) : (Lib.decDigits u).length ≤ 16 := decDigits_len 15 u (by omega)
end Go.Proofs.YtmbabbapcjphgaaDoor
namespace Go.Proofs.YtmbabbapcjphgaaDoor
open Go.RowKit



theorem below_cells {W w1 : World} (hb : Below W.heap.size W w1) : ∀ b o, b < W.heap.size → w1.cell? ⟨b, o, none⟩ = W.cell? ⟨b, o, none⟩ := fun b o h => hb.cell (p := ⟨b, o, none⟩) h
def TextRes (w : World) (n : Nat) (e : Ending) (w' : World) : Prop := e = .returned (.string ⟨(Lib.decDigits n).toArray⟩) ∧ Below w.heap.size w w'

set_option maxRecDepth 10000 in
set_option maxHeartbeats 1000000 in
theorem specText_yes (n : Nat) (w : World) (h : n ≤ 281474976710655) : Calls Tryd.prog 37 #[.int .i64 (n : Int)] w (TextRes w n) := by
  induction n using Nat.strongRecOn generalizing w with
  | ind n ih =>
    by_cases h10 : n < 10
    · obtain ⟨D, hD⟩ : ∃ D : ByteArray, D = ⟨#[UInt8.ofNat (48 + n)]⟩ := ⟨_, rfl⟩
      have hcv : ∀ W : World, W.cell? ⟨w.heap.size, 0, none⟩ = some (.int .u8 (48 + (n : Int))) → (convert 22 9 (.slice (some ⟨w.heap.size, 0, none⟩) 1 1)).run Tryd.prog W = .ok (.string D) W := fun W hc => by rw [hD]; exact conv_one W _ (48 + n) (by omega) hc
      have HD := Lib.hid hD
      clear ih hD
      go_enter Tryd.func37, Tryd.ntmps37
      go_wp2_with (go_at_call 60; refine (specNum_yes _ _ (by omega) (by omega)).mono ?_; rintro e w' ⟨rfl, rfl⟩)
      go_ret
      refine ⟨?_, (Below.refl _ _).alloc (Nat.le_refl _) _⟩
      rw [Lib.decDigits, dif_pos h10, ← HD.out]
      rfl
    · have ih2 := fun W => ih (n / 10) (by omega) W (by omega)
      unfold TextRes at ih2
      have hsz := decDigits_le (n / 10) (by omega)
      obtain ⟨q, hq⟩ : ∃ q, q = n / 10 := ⟨_, rfl⟩
      obtain ⟨d, hd⟩ : ∃ d, d = n % 10 := ⟨_, rfl⟩
      have e1 : (n : Int).tdiv 10 = (q : Int) := by rw [Int.tdiv_eq_ediv_of_nonneg (by omega)]; omega
      have e2 : (n : Int).tmod 10 = (d : Int) := by rw [Int.tmod_eq_emod_of_nonneg (by omega)]; omega
      have e3 : IntKind.i64.wrap (q : Int) = (q : Int) := IntWalk.i64_in _ (by omega)
      have e4 : IntKind.i64.wrap (48 + (d : Int)) = 48 + (d : Int) := IntWalk.i64_in _ (by omega)
      have e5 : IntKind.u8.wrap (48 + (d : Int)) = 48 + (d : Int) := by rw [IntKind.wrap_u8']; omega
      obtain ⟨D, hD⟩ : ∃ D : ByteArray, D = ⟨#[UInt8.ofNat (48 + d)]⟩ := ⟨_, rfl⟩
      obtain ⟨S, hS⟩ : ∃ S : ByteArray, S = ⟨(Lib.decDigits q).toArray⟩ := ⟨_, rfl⟩
      have hsz2 : S.size ≤ 16 := by rw [hS, hq]; simpa [ByteArray.size] using hsz
      have hsz3 : D.size ≤ 16 := by rw [hD]; simp [ByteArray.size]
      have hdd : Hid ((S ++ D) = ⟨(Lib.decDigits n).toArray⟩) := by
        show _ = _
        rw [Lib.decDigits, dif_neg h10, hS, hD, hq, hd]
        apply ByteArray.ext
        simp
      have hcv : ∀ (W : World) (g : Nat), W.cell? ⟨g, 0, none⟩ = some (.int .u8 (48 + (d : Int))) → (convert 22 9 (.slice (some ⟨g, 0, none⟩) 1 1)).run Tryd.prog W = .ok (.string D) W := fun W g hc => by rw [hD]; exact conv_one W g (48 + d) (by omega) (by rw [hc]; rfl)
      rw [← hq, ← hS] at ih2
      have IH := Lib.hid ih2
      clear ih ih2 hS hsz hD
      have H1 := Lib.hid hq
      have H2 := Lib.hid hd
      clear hq hd
      go_enter Tryd.func37, Tryd.ntmps37
      go_wp2_with (go_at_call 60; refine (specNum_yes _ _ (by omega) (by omega)).mono ?_; rintro e w' ⟨rfl, rfl⟩)
      go_region_with (go_at_call 37; ((with_reducible refine (IH.out _).mono ?_)); rintro e w1 ⟨rfl, hb⟩; have hcw := below_cells hb; have hzw := hb.size)
      all_goals
        go_wp2
        go_ret
        refine ⟨by rw [← hdd.out]; rfl, ?_⟩
        first
          | exact ((((Below.refl w.heap.size w).drew).trans hb).alloc hb.size _)
          | exact (((Below.refl w.heap.size w).drew).alloc (Nat.le_refl _) _).trans (hb.mono (by simp))
          | exact ((((Below.refl w.heap.size w).drew).alloc (Nat.le_refl _) _).trans (hb.mono (by simp))).drew

theorem specText_no (n : Int) (w : World) (h : n < 0 ∨ 281474976710655 < n) : Calls Tryd.prog 37 #[.int .i64 n] w fun e w' => e = .returned (.string ⟨#[]⟩) ∧ w = w' := by
  go_enter Tryd.func37, Tryd.ntmps37
  go_wp2_with (go_at_call 60; refine (specNum_no _ _ h).mono ?_; rintro e w' ⟨rfl, rfl⟩)
  go_ret
  exact ⟨rfl, rfl⟩
end Go.Proofs.YtmbabbapcjphgaaDoor
namespace Go.Proofs.YtmbabbapcjphgaaDoor
open Go.RowKit

def numS (n : Int) : ByteArray := ⟨(Lib.decDigits n.toNat).toArray⟩
def spS : ByteArray := ⟨#[32]⟩
def nlS : ByteArray := ⟨#[10]⟩
def numOk' (n : Int) : Prop := 0 ≤ n ∧ n ≤ 281474976710655
theorem numS_size {n : Int} (h : numOk' n) : (numS n).size ≤ 16 := by
  have := decDigits_le n.toNat (by unfold numOk' at h; omega)
  simpa [numS, ByteArray.size] using this
theorem numS_call {n : Int} (h : numOk' n) (w : World) : Calls Tryd.prog 37 #[.int .i64 n] w fun e w' => e = .returned (.string (numS n)) ∧ Below w.heap.size w w' := by
  unfold numOk' at h
  obtain ⟨m, rfl⟩ : ∃ m : Nat, n = (m : Int) := ⟨n.toNat, by omega⟩
  exact specText_yes m w (by omega)
/-- The first k of a line's numbers, with spaces between. -/
def joinK (e : GE) : Nat → ByteArray
  | 0 => ⟨#[]⟩
  | 1 => ⟨#[]⟩ ++ numS e.f
  | 2 => ⟨#[]⟩ ++ numS e.f ++ spS ++ numS e.t
  | _ => ⟨#[]⟩ ++ numS e.f ++ spS ++ numS e.t ++ spS ++ numS e.w
def EdgeNum (e : GE) : Prop := numOk' e.f ∧ numOk' e.t ∧ numOk' e.w
theorem joinK_size {e : GE} (h : EdgeNum e) (k : Nat) : (joinK e k).size ≤ 50 := by
  have h1 := numS_size h.1
  have h2 := numS_size h.2.1
  have h3 := numS_size h.2.2
  have hsp : spS.size = 1 := rfl
  have he0 : (⟨#[]⟩ : ByteArray).size = 0 := rfl
  unfold joinK
  split
  · omega
  · rw [ByteArray.size_append]; omega
  · rw [ByteArray.size_append, ByteArray.size_append, ByteArray.size_append]; omega
  · rw [ByteArray.size_append, ByteArray.size_append, ByteArray.size_append, ByteArray.size_append, ByteArray.size_append]; omega

end Go.Proofs.YtmbabbapcjphgaaDoor
namespace Go.Proofs.YtmbabbapcjphgaaDoor
open Go.RowKit

def textG (N : Int) (es : List GE) : ByteArray := es.foldl (fun s e => s ++ joinK e 3 ++ nlS) (numS N ++ nlS)
def graphT (N : Int) (es : List GE) : ByteArray := if graphB N es then textG N es else ⟨#[]⟩
theorem textG_snoc (N : Int) (es : List GE) (e : GE) : textG N (es ++ [e]) = textG N es ++ joinK e 3 ++ nlS := by simp [textG]
theorem fold_size : ∀ (es : List GE) (s : ByteArray), (∀ e ∈ es, EdgeNum e) → (es.foldl (fun s e => s ++ joinK e 3 ++ nlS) s).size ≤ s.size + 51 * es.length
  | [], s, _ => by simp
  | e :: r, s, h => by
    rw [List.foldl_cons, List.length_cons]
    have h1 := fold_size r (s ++ joinK e 3 ++ nlS) (fun x hx => h x (List.mem_cons_of_mem _ hx))
    have h2 := joinK_size (h e (List.mem_cons_self ..)) 3
    have h3 : nlS.size = 1 := rfl
    rw [ByteArray.size_append, ByteArray.size_append] at h1
    omega
theorem textG_size {N : Int} {es : List GE} (hN : numOk' N) (h : ∀ e ∈ es, EdgeNum e) : (textG N es).size ≤ 17 + 51 * es.length := by
  have h1 := fold_size es (numS N ++ nlS) h
  have h2 := numS_size hN
  have h3 : nlS.size = 1 := rfl
  rw [ByteArray.size_append] at h1
  unfold textG
  omega
theorem edge_num {N : Int} {e : GE} (h : edgeB N e = true) (hN : N ≤ 150) : EdgeNum e := by
  have := edgeB_iff h
  unfold EdgeNum numOk'
  omega
end Go.Proofs.YtmbabbapcjphgaaDoor
namespace Go.Proofs.YtmbabbapcjphgaaDoor
open Go.RowKit

theorem implNum_yes (n : Int) (w : World) (h0 : 0 ≤ n) (h1 : n ≤ 281474976710655) : Calls Tryd.prog 58 #[.int .i64 n] w fun e w' => e = .returned (.bool true) ∧ w = w' := by
  go_enter Tryd.func58, Tryd.ntmps58
  go_wp2
  go_ret
  exact ⟨rfl, rfl⟩

theorem implNum_no (n : Int) (w : World) (h : n < 0 ∨ 281474976710655 < n) : Calls Tryd.prog 58 #[.int .i64 n] w fun e w' => e = .returned (.bool false) ∧ w = w' := by
  rcases h with h | h
  · go_enter Tryd.func58, Tryd.ntmps58
    go_wp2
    go_ret
    exact ⟨rfl, rfl⟩
  · have h0 : 0 ≤ n := by omega
    have h2 : decide (n ≤ 281474976710655) = false := by simpa using h
    go_enter Tryd.func58, Tryd.ntmps58
    go_wp2
    go_ret
    exact ⟨rfl, rfl⟩
end Go.Proofs.YtmbabbapcjphgaaDoor
namespace Go.Proofs.YtmbabbapcjphgaaDoor
open Go.RowKit



/-- A variable holds what it held where nothing old is written. -/
theorem var_below {P : Program} {w w' : World} {n : String} {cs : Array Value} (h : w.var? P n = some cs) (hb : Below w.heap.size w w') : w'.var? P n = some cs := by
  unfold World.var? at h ⊢
  cases hg : P.globalNamed n with
  | none => simp [hg] at h
  | some g =>
    rw [hg] at h
    simp only [Option.bind_some] at h ⊢
    rcases Nat.lt_or_ge g w.heap.size with hlt | hge
    · rw [hb.block g hlt]; exact h
    · rw [Array.getElem?_eq_none hge] at h; cases h
def Pow10 (w : World) : Prop := Lib.TabIs Tryd.prog w "internal/strconv.uint64pow10" .u64 Lib.pow10Tab
theorem Pow10.below {w w' : World} (h : Pow10 w) (hb : Below w.heap.size w w') : Pow10 w' := var_below h hb
theorem below_grow (w : World) (k : Nat) (os : Array Obj) : Below w.heap.size w (Sort.grow (w.drewN k) os) :=
  ⟨rfl, rfl, rfl, by simp [Sort.grow], fun j hj => by simp [Sort.grow, Array.getElem?_append, hj]⟩

theorem implText_yes (n : Nat) (w : World) (h : n ≤ 281474976710655) (ht : Pow10 w) : Calls Tryd.prog 34 #[.int .i64 (n : Int)] w (TextRes w n) := by
  have C0 : Calls Tryd.prog 59 #[.int .i64 (n : Int)] w fun e w' => e = .returned (.string ⟨(Lib.itoa (n : Int)).toArray⟩) ∧ ∃ k os, w' = Sort.grow (w.drewN k) os := Any.strconv_Itoa Tryd.laysM171 (n : Int) (by omega) (by omega) w ht
  have C := Lib.hid C0
  clear C0
  have e : Lib.itoa (n : Int) = Lib.decDigits n := by unfold Lib.itoa; rw [if_neg (by omega), Int.toNat_natCast]
  rw [e] at C
  clear e
  go_enter Tryd.func34, Tryd.ntmps34
  go_wp2_with (first
    | (go_at_call 58; refine (implNum_yes _ _ (by omega) (by omega)).mono ?_; rintro e w' ⟨rfl, rfl⟩)
    | (go_at_call 59; refine C.out.mono ?_; rintro e w' ⟨rfl, k, os, rfl⟩))
  go_ret
  exact ⟨rfl, below_grow w k os⟩
theorem implText_no (n : Int) (w : World) (h : n < 0 ∨ 281474976710655 < n) : Calls Tryd.prog 34 #[.int .i64 n] w fun e w' => e = .returned (.string ⟨#[]⟩) ∧ w = w' := by
  go_enter Tryd.func34, Tryd.ntmps34
  go_wp2_with (go_at_call 58; refine (implNum_no _ _ h).mono ?_; rintro e w' ⟨rfl, rfl⟩)
  go_ret
  exact ⟨rfl, rfl⟩

end Go.Proofs.YtmbabbapcjphgaaDoor
namespace Go.Proofs.YtmbabbapcjphgaaDoor
open Go.RowKit

theorem Tryd.sizeBuilder : (Tryd.prog.info? 80).map (·.size) = some 2 := by kernel_rfl
theorem Tryd.liesBuilder : liesAt Tryd.prog Tryd.prog.depth 80 (2 / Tryd.prog.cellsOf 80) 0 80 1 = true := by kernel_rfl

set_option maxHeartbeats 1000000 in
set_option maxRecDepth 100000 in
theorem check_used (b : Nat) (w : World) (h0 : w.cell? ⟨b, 0, none⟩ = some (.pointer (some ⟨b, 0, none⟩))) :
    Calls Tryd.prog 57 #[.pointer (some ⟨b, 0, none⟩)] w fun e w' => e = .returned (.tuple #[]) ∧ w' = w := by
  obtain ⟨j, hj, _⟩ := Option.map_eq_some_iff.1 Tryd.sizeBuilder
  go_enter Tryd.func57, Tryd.ntmps57
  go_wp2
  rw [Lib.run_neq_ptr_same w _ Tryd.underlying78 hj]
  go_wp2
  go_end0
  exact ⟨rfl, rfl⟩

set_option maxHeartbeats 1000000 in
set_option maxRecDepth 100000 in
theorem check_fresh (b : Nat) (w : World) (h0 : w.cell? ⟨b, 0, none⟩ = some (.pointer none)) (hsh : w.shape? b = some (80, 2)) (hfz : w.frozen? ⟨b, 0, none⟩ = false) :
    Calls Tryd.prog 57 #[.pointer (some ⟨b, 0, none⟩)] w fun e w' => e = .returned (.tuple #[]) ∧ w' = w.setCell ⟨b, 0, none⟩ (.pointer (some ⟨b, 0, none⟩)) := by
  obtain ⟨j, hj, hjs⟩ := Option.map_eq_some_iff.1 Tryd.sizeBuilder
  go_enter Tryd.func57, Tryd.ntmps57
  go_wp2
  rw [Lib.run_to_unsafe w ⟨b, 0, none⟩ Tryd.underlying78 Tryd.underlying118 hj (by rw [hjs]; decide) hsh (Nat.zero_lt_succ 1)]
  simp only [Result.andThen]
  rw [Oper.upon_value]
  go_wp2
  rw [run_callFunc_extern Tryd.func75 (by kernel_rfl) (by kernel_rfl) (by kernel_rfl) (e := Extern.AbiNoEscape.same) (by kernel_rfl)]
  rw [Lib.run_noEscape]
  simp only [Result.andThen]
  rw [Oper.upon_value]
  go_wp2
  rw [Lib.run_from_unsafe w ⟨b, 0, none⟩ Tryd.underlying118 Tryd.underlying78 hj hsh Tryd.liesBuilder]
  simp only [Result.andThen]
  rw [Oper.upon_value]
  go_wp2
  go_end0
  exact ⟨rfl, rfl⟩

def IsB (B b : Nat) (bs : List Value) (w : World) : Prop := Lib.IsBuilder 80 5 B b bs w

theorem check_any (B b : Nat) (bs : List Value) (w : World) (h : IsB B b bs w) :
    Calls Tryd.prog 57 #[.pointer (some ⟨b, 0, none⟩)] w fun e w' => e = .returned (.tuple #[]) ∧ (Lib.BuilderAt 80 5 B b (.pointer (some ⟨b, 0, none⟩)) bs w' ∧ Below B w w' ∧ ∀ k, k ≠ b → w'.heap[k]? = w.heap[k]?) := by
  rcases h with h | h
  · refine (check_fresh b w h.cell0 h.shape h.frozen0).mono ?_
    rintro e w' ⟨rfl, rfl⟩
    exact ⟨rfl, h.used _, (Below.refl B w).setCell (p := ⟨b, 0, none⟩) h.1 _, fun k hk => Below.heap_setCell w ⟨b, 0, none⟩ _ k hk⟩
  · refine (check_used b w h.cell0).mono ?_
    rintro e w' ⟨rfl, rfl⟩
    exact ⟨rfl, h, Below.refl B _, fun _ _ => rfl⟩

set_option maxHeartbeats 2000000 in
set_option maxRecDepth 100000 in
theorem write_any (B b : Nat) (bs : List Value) (s : ByteArray) (w : World) (h : IsB B b bs w) (hlen : bs.length + s.size ≤ 140737488355328) (hBw : B ≤ w.heap.size) :
    Calls Tryd.prog 33 #[.pointer (some ⟨b, 0, none⟩), .string s] w fun e w' => e = .returned (.tuple #[.int .i64 s.size, .nilIface]) ∧ IsB B b (bs ++ Lib.strCells s) w' ∧ Below B w w' ∧ ∀ (k : Nat) (cur : Array Value) (t : TypeId) (z : Nat × Nat), w.heap[k]? = some (.cells cur t z) → t ≠ 5 → k ≠ b → w'.heap[k]? = w.heap[k]? := by
  obtain ⟨i0, hi, hz0, hz1, hz2⟩ := info_parts Tryd.infoByte
  have C := Lib.hid (check_any B b bs w h)
  clear h
  go_enter Tryd.func33, Tryd.ntmps33
  go_wp2_with fail
  refine C.out.mono ?_
  rintro e w1 ⟨rfl, h1, hb1, hk1⟩
  obtain ⟨hB, v, hbk, hown, hne⟩ := h1
  have HK1 := Lib.hid hk1
  have HNE : Hid (∀ (k : Nat) (cur : Array Value) (t : TypeId) (z : Nat × Nat), w1.heap[k]? = some (.cells cur t z) → t ≠ 5 → v.ownBlock ≠ some k) := Lib.hid (by
    intro k cur t z hk ht
    rcases hown.2 with ⟨rfl, _⟩ | ⟨g, cap, cur2, rfl, _, hcell, _⟩
    · simp [Value.ownBlock]
    · intro h
      have h' : some g = some k := h
      injection h' with h'
      subst h'
      rw [hk] at hcell
      injection hcell with hcell
      injection hcell with _ h2
      exact ht h2)
  clear hk1
  have c0 : w1.cell? ⟨b, 0, none⟩ = some (.pointer (some ⟨b, 0, none⟩)) := by rw [Lib.cell_of_heap hbk]; rfl
  have c1 : w1.cell? ⟨b, 1, none⟩ = some v := by rw [Lib.cell_of_heap hbk]; rfl
  go_wp2_with (at_builtin; refine Lib.wpList_append_own_string _ rfl _ _ 22 9 rfl B 5 i0 Tryd.underlying22 Tryd.underlying9 hi hz0 hz1 hz2 _ _ _ rfl hown s rfl ?c3 ?c4 ?c5 ?_)
  case c3 => unfold maxLen; omega
  case c4 => omega
  case c5 => have := hb1.size; omega
  intro v' w2 hown' hgrow _
  have hlt : b < w1.heap.size := by
    rcases Nat.lt_or_ge b w1.heap.size with h' | h'
    · exact h'
    · simp [Array.getElem?_eq_none h'] at hbk
  have hb2 : w2.heap[b]? = some (.cells #[.pointer (some ⟨b, 0, none⟩), v] 80 (0, 0)) := by
    rw [hgrow.block b hlt (fun e => hne e.symm)]
    exact hbk
  have d0 : w2.cell? ⟨b, 0, none⟩ = some (.pointer (some ⟨b, 0, none⟩)) := by rw [Lib.cell_of_heap hb2]; rfl
  have d1 : w2.cell? ⟨b, 1, none⟩ = some v := by rw [Lib.cell_of_heap hb2]; rfl
  have f1 : w2.frozen? ⟨b, 1, none⟩ = false := Lib.frozen_of_heap hb2 1
  obtain ⟨ao, n', cap, rfl⟩ : ∃ ao n' cap, v' = .slice ao n' cap := by
    rcases hown'.2 with ⟨hv, _⟩ | ⟨g, cap, cur, hv, _⟩
    · exact ⟨_, _, _, hv⟩
    · exact ⟨_, _, _, hv⟩
  go_wp2
  go_ret2
  refine ⟨rfl, .inr ?_, ?_⟩
  · exact Lib.BuilderAt.put (T := 80) (e := 5) hB hb2 (bs' := bs ++ Lib.strCells s) (by simpa [Lib.strCells_length] using hown') (by decide)
  · refine ⟨(hb1.grown hgrow (by have := hb1.size; omega) (fun k hk => (hown.lt k hk).1)).setCell (p := ⟨b, 1, none⟩) hB _, fun k cur t z hk ht hkb => ?_⟩
    have h1 := HK1.out k hkb
    have h2 := HNE.out k cur t z (h1.trans hk) ht
    have hlk : k < w1.heap.size := (Array.getElem?_eq_some_iff.1 (h1.trans hk)).1
    rw [Below.heap_setCell w2 ⟨b, 1, none⟩ _ k hkb, hgrow.block k hlk (fun e => h2 e.symm), h1]
end Go.Proofs.YtmbabbapcjphgaaDoor
