/- How many digits a number has. // The contract of the laws' helper that makes a mark as a text. // The contracts of the laws' helpers that write marks into bytes of the call's own and look for them; words for what is written only in some blocks. Condition: at most 2^21 bytes. // The contracts of the laws' helpers that write marks into files and operations of the call's own and look for them. Condition: at most 2^21 of each. // The contract of the laws' helper that writes marks into operations of the call's own. Condition: at most 2^21 of each. // The contracts of the laws' helpers that look for the marks, and of the two that mark a disk and look for its marks. Condition: at most 2^21 of each. // The contracts of the laws' helpers that mark a disk and an operation of the call's own and look for their marks. -/
import Derived.Lib.ItoaNum
import Derived.Test.YtejibpajjoaldaaC1
import Derived.Test.YtejibpajjoaldaaC2
namespace Go.Proofs.Ytejibpajjoaldaa
open Go

theorem decDigits_len : ∀ (k u : Nat), u < 10 ^ (k + 1) → (Lib.decDigits u).length ≤ k + 1
  | 0, u, h => by rw [Lib.decDigits, dif_pos (by simpa using h)]; simp
  | k + 1, u, h => by
    rw [Lib.decDigits]
    split
    · simp
    · have := decDigits_len k (u / 10) (by rw [Nat.pow_succ] at h; omega)
      simp
      omega
theorem decDigits_le (u : Nat) (h : u ≤ 281474976710655) : (Lib.decDigits u).length ≤ 16 := decDigits_len 15 u (by omega)
end Go.Proofs.Ytejibpajjoaldaa
namespace Go.Proofs.Ytejibpajjoaldaa
open Go.RowKit

/-- The text of a mark. -/
def mt (k : Nat) : ByteArray := ⟨(109 :: Lib.decDigits k).toArray⟩
def dd (r : Nat) : List UInt8 := if r = 0 then [] else Lib.decDigits r
theorem dd_step (r : Nat) (h : 0 < r) : dd r = dd (r / 10) ++ [UInt8.ofNat (48 + r % 10)] := by
  unfold dd
  rw [if_neg (by omega), Lib.decDigits]
  split
  · rename_i h10
    rw [if_pos (by omega), Nat.mod_eq_of_lt h10]
    rfl
  · rw [if_neg (by omega)]

set_option maxRecDepth 10000 in
set_option maxHeartbeats 1000000 in
theorem markText_any (k : Nat) (w : World) (h0 : 0 < k) (hk : k ≤ 4194304) : Calls Try.prog 68 #[.int .i64 (k : Int)] w fun e w' => e = .returned (.string (mt k)) ∧ Below w.heap.size w w' := by
  have hl16 := decDigits_le k (by omega)
  have hdk : Hid (dd k ++ [] = Lib.decDigits k) := by show _ = _; rw [List.append_nil, dd, if_neg (by omega)]
  have HM : Hid ((⟨#[109]⟩ : ByteArray) ++ ⟨(Lib.decDigits k).toArray⟩ = mt k) := by
    show _ = _
    unfold mt
    apply ByteArray.ext
    simp
  go_enter Try.func68, Try.ntmps68
  go_wp2
  go_loopw [0, 3] (fun t v wr => ∃ (r : Nat) (o : List UInt8), t = .int .i64 (r : Int) ∧ r ≤ 4194304 ∧ Hid (dd r ++ o = Lib.decDigits k) ∧ v = .string ⟨o.toArray⟩ ∧ Below w.heap.size w wr) (fun t _ _ => (intOf t).toNat)
  case atStart => exact ⟨k, [], rfl, hk, hdk, rfl, Below.refl _ _⟩
  case round =>
    obtain ⟨r, o, rfl, hr, hdd, rfl, hbel⟩ := hrel
    by_cases hpos : 0 < r
    · have hsz : o.length ≤ 16 := by have := congrArg List.length hdd.out; rw [List.length_append] at this; omega
      obtain ⟨O, hO⟩ : ∃ O : ByteArray, O = ⟨o.toArray⟩ := ⟨_, rfl⟩
      obtain ⟨D, hD⟩ : ∃ D : ByteArray, D = ⟨#[UInt8.ofNat (48 + r % 10)]⟩ := ⟨_, rfl⟩
      have hOs : O.size ≤ 16 := by rw [hO]; simpa [ByteArray.size] using hsz
      have hDs : D.size ≤ 16 := by rw [hD]; simp [ByteArray.size]
      have hDO : Hid (D ++ O = ⟨(UInt8.ofNat (48 + r % 10) :: o).toArray⟩) := by
        show _ = _
        rw [hO, hD]
        apply ByteArray.ext
        simp
      have hcv : ∀ W : World, W.cell? ⟨wr.heap.size, 0, none⟩ = some (.int .u8 (48 + (r : Int) % 10)) → (convert 22 9 (.slice (some ⟨wr.heap.size, 0, none⟩) 1 1)).run Try.prog W = .ok (.string D) W := fun W hc => by rw [hD]; exact conv_one W _ (48 + r % 10) (by omega) (by rw [hc]; rfl)
      have hst : Hid (dd (r / 10) ++ (UInt8.ofNat (48 + r % 10) :: o) = Lib.decDigits k) := by
        show _ = _
        rw [← hdd.out, dd_step r hpos, List.append_assoc]
        rfl
      rw [← hO]
      clear hO hD hsz hdd
      go_wp2
      go_roundw
      case rel => exact ⟨r / 10, _, by go_num, by omega, hst, by rw [hDO.out], hbel.alloc hbel.size _⟩
      case measure => simp [intOf]; omega
    · have ho : o = Lib.decDigits k := by have := hdd.out; rw [dd, if_pos (by omega)] at this; simpa using this
      have hsz : (⟨o.toArray⟩ : ByteArray).size ≤ 16 := by rw [ho]; simpa [ByteArray.size] using hl16
      rw [← ho] at HM
      generalize (⟨o.toArray⟩ : ByteArray) = O at HM hsz ⊢
      clear ho hdd
      go_wp2
      go_ret
      exact ⟨by rw [← HM.out]; rfl, hbel⟩
end Go.Proofs.Ytejibpajjoaldaa
namespace Go.Proofs.Ytejibpajjoaldaa
open Go.RowKit

/-- The marks from k on. -/
def marksK (k n : Nat) : List Nat := (List.range n).map fun i => (k + i) % 256
theorem marksK_length (k n : Nat) : (marksK k n).length = n := by simp [marksK]
theorem marksK_small (k n : Nat) : ∀ x ∈ marksK k n, x < 256 := by
  intro x hx
  simp only [marksK, List.mem_map] at hx
  obtain ⟨i, _, rfl⟩ := hx
  omega
theorem marksK_get (k n i : Nat) (h : i < n) : (marksK k n)[i]? = some ((k + i) % 256) := by simp [marksK, h]
def markedK (k : Nat) (xs : List Nat) (i : Nat) : List Nat := marksK k i ++ xs.drop i
theorem markedK_zero (k : Nat) (xs : List Nat) : markedK k xs 0 = xs := by simp [markedK, marksK]
theorem markedK_full (k : Nat) (xs : List Nat) : markedK k xs xs.length = marksK k xs.length := by simp [markedK]
theorem markedK_step (k : Nat) (xs : List Nat) (i : Nat) (h : i < xs.length) : (vb (markedK k xs i)).set i (.int .u8 (((k + i) % 256 : Nat) : Int)) = vb (markedK k xs (i + 1)) := by
  have : (markedK k xs i).set i ((k + i) % 256) = markedK k xs (i + 1) := by
    unfold markedK
    rw [List.set_append_right _ _ (by simp [marksK_length]), marksK_length, Nat.sub_self, List.drop_eq_getElem_cons h, List.set_cons_zero]
    rw [marksK, marksK, List.range_succ, List.map_append, List.append_assoc]
    rfl
  rw [← this]
  simp [vb, List.map_set]

def MarkedK (w : World) (base k : Nat) (A : Option Addr) (n c : Nat) (e : Ending) (w' : World) : Prop :=
  e = .returned (.int .i64 ((k + n : Nat) : Int)) ∧ w'.ownsRow base 5 1 (.slice A n c) n (vb (marksK k n)) ∧ w.grownBy w' (Value.slice A n c).ownBlock

set_option maxHeartbeats 400000 in
theorem markB_any (A : Option Addr) (n c base k : Nat) (xs : List Nat) (w : World) (ho : w.ownsRow base 5 1 (.slice A n c) n (vb xs)) (hn : n ≤ 2097152) (hk : k ≤ 8388608) :
    Calls Try.prog 34 #[.slice A n c, .int .i64 (k : Int)] w (MarkedK w base k A n c) := by
  have hl : xs.length = n := by have := ho.1; rw [vb_length] at this; omega
  rcases Nat.eq_zero_or_pos n with h0 | h0
  · subst h0
    obtain rfl : xs = [] := List.eq_nil_of_length_eq_zero hl
    have HO := Lib.hid ho
    clear ho hl
    go_enter Try.func34, Try.ntmps34
    go_wp2
    refine wp_loop_rounds 1 ?_
    rw [rounds_succ]
    go_wp2
    go_ret
    exact ⟨rfl, HO.out, World.grownBy.refl _ _⟩
  · obtain ⟨g, cap, hv, hbase, hlt⟩ := ho.form h0
    obtain ⟨rfl, -, rfl⟩ : A = some ⟨g, 0, none⟩ ∧ n = n ∧ c = cap := by injection hv with e1 e2 e3; exact ⟨e1, e2, e3⟩
    clear hv
    have HL := Lib.hid hl
    have ho0 : w.ownsRow base 5 1 (.slice (some ⟨g, 0, none⟩) n c) n (vb (markedK k xs 0)) := by rw [markedK_zero]; exact ho
    clear hl ho
    go_enter Try.func34, Try.ntmps34
    go_wp2
    go_loopw [1, 5] (fun t i wr => ∃ j : Nat, j ≤ n ∧ i = .int .i64 j ∧ t = .int .i64 ((k + j : Nat) : Int) ∧ wr.ownsRow base 5 1 (.slice (some ⟨g, 0, none⟩) n c) n (vb (markedK k xs j)) ∧ w.grownBy wr (some g)) (fun _ i _ => n - (intOf i).toNat)
    case atStart => exact ⟨0, Nat.zero_le _, rfl, rfl, ho0, World.grownBy.refl _ _⟩
    case round =>
      obtain ⟨j, hj, rfl, rfl, hown, hgr⟩ := hrel
      by_cases hlt2 : j < n
      · have hl2 : j < (vb (markedK k xs j)).length := by rw [hown.1]; omega
        have hcell2 : wr.cell? ⟨g, j, none⟩ = some (vb (markedK k xs j))[j] := by rw [hown.cellAt j (by omega), List.getElem?_eq_getElem hl2]
        have hfr := hown.frozenAt j
        have hst := hown.stored j (.int .u8 (((k + j) % 256 : Nat) : Int))
        rw [markedK_step k xs j (by rw [HL.out]; exact hlt2)] at hst
        have hst1 := Lib.hid hst.1
        have hg2 := grownBy_trans hgr hst.2
        generalize (vb (markedK k xs j))[j] = old at hcell2
        clear hst hown hl2
        go_wp2
        go_roundw
        case rel => exact ⟨j + 1, by omega, by go_num, by go_num, hst1.out, hg2⟩
        case measure => simp [intOf]; omega
      · obtain rfl : j = n := by omega
        go_wp2
        go_ret
        have e := HL.out
        subst e
        rw [markedK_full] at hown
        exact ⟨rfl, hown, hgr⟩

set_option maxHeartbeats 400000 in
theorem heldB_any (A : Option Addr) (n c k : Nat) (w : World) (hr : Rd w A n (marksK k n)) (hn : n ≤ 2097152) (hk : k ≤ 8388608) :
    Calls Try.prog 35 #[.slice A n c, .int .i64 (k : Int)] w fun e w' => e = .returned (.int .i64 ((k + n : Nat) : Int)) ∧ w = w' := by
  go_enter Try.func35, Try.ntmps35
  go_wp2
  go_loop [1, 5] (fun t i => ∃ j : Nat, j ≤ n ∧ i = .int .i64 j ∧ t = .int .i64 ((k + j : Nat) : Int)) (fun _ i => n - (intOf i).toNat)
  case atStart => exact ⟨0, Nat.zero_le _, rfl, rfl⟩
  case round =>
    obtain ⟨j, hj, rfl, rfl⟩ := hrel
    by_cases hlt : j < n
    · obtain ⟨b, off, x, rfl, hbw, hx, hxs, hc⟩ := hr.at_ hlt
      obtain rfl : (k + j) % 256 = x := by have := (marksK_get k n j hlt).symm.trans hxs.out; injection this
      go_wp2
      go_round
      case rel => exact ⟨j + 1, by omega, by go_num, by go_num⟩
      case measure => simp [intOf]; omega
    · obtain rfl : j = n := by omega
      go_wp2
      go_ret
      exact ⟨rfl, rfl⟩

/-- Nothing old is written but in the blocks S. -/
structure Only (S : Nat → Prop) (w w' : World) : Prop where
  os : w'.os = w.os
  tape : w'.tape = w.tape
  output : w'.output = w.output
  size : w.heap.size ≤ w'.heap.size
  block : ∀ b, b < w.heap.size → ¬ S b → w'.heap[b]? = w.heap[b]?
theorem Only.refl (S : Nat → Prop) (w : World) : Only S w w := ⟨rfl, rfl, rfl, Nat.le_refl _, fun _ _ _ => rfl⟩
theorem Only.trans {S : Nat → Prop} {a b c : World} (h : Only S a b) (k : Only S b c) : Only S a c :=
  ⟨k.os.trans h.os, k.tape.trans h.tape, k.output.trans h.output, Nat.le_trans h.size k.size, fun i hi hn => (k.block i (Nat.lt_of_lt_of_le hi h.size) hn).trans (h.block i hi hn)⟩
theorem Only.grown {S : Nat → Prop} {a b c : World} {row : Option Nat} (h : Only S a b) (k : b.grownBy c row) (hr : ∀ i, row = some i → S i) : Only S a c :=
  h.trans ⟨k.os, k.tape, k.output, k.size, fun i hi hn => k.block i hi (fun e => hn (hr i e.symm))⟩
theorem Only.below {S : Nat → Prop} {a b c : World} (h : Only S a b) (k : Below b.heap.size b c) : Only S a c :=
  h.trans ⟨k.os, k.tape, k.output, k.size, fun i hi _ => k.block i hi⟩
theorem Only.mono {S T : Nat → Prop} {a b : World} (h : Only S a b) (hs : ∀ i, S i → T i) : Only T a b :=
  ⟨h.os, h.tape, h.output, h.size, fun i hi hn => h.block i hi (fun hh => hn (hs i hh))⟩
theorem Only.drewN {S : Nat → Prop} {a b : World} (h : Only S a b) (n : Nat) : Only S a (b.drewN n) := ⟨h.os, h.tape, h.output, h.size, h.block⟩

/-- Old memory up to B stays where only blocks from B on are written. -/
theorem Only.toBelow {S : Nat → Prop} {B : Nat} {w w' : World} (h : Only S w w') (hB : B ≤ w.heap.size) (hs : ∀ k, S k → B ≤ k) : Below B w w' :=
  ⟨h.os, h.tape, h.output, h.size, fun k hk => h.block k (by omega) (fun hh => by have := hs k hh; omega)⟩

theorem OwnB.turn {w w' : World} {lo : Nat} {l m : List Dat} {d : Dat} {ys : List Nat} (h : OwnB w lo (l ++ d :: m)) (hg : w.grownBy w' d.v.ownBlock) (ho : w'.ownsRow lo 5 1 (.slice d.A d.n d.c) d.n (vb ys)) (hs : ∀ y ∈ ys, y < 256) :
    OwnB w' lo (l ++ (⟨d.A, d.n, d.c, ys⟩ : Dat) :: m) := by
  obtain ⟨a1, a2, a3⟩ := List.pairwise_append.1 h.apart
  obtain ⟨b1, b2⟩ := List.pairwise_cons.1 a2
  have hl : ∀ e ∈ l, w'.ownsRow lo 5 1 e.v e.n (vb e.xs) := fun e he => (h.own e (List.mem_append_left _ he)).kept hg (a3 e he d (by simp))
  have hm : ∀ e ∈ m, w'.ownsRow lo 5 1 e.v e.n (vb e.xs) := fun e he => by
    refine (h.own e (List.mem_append_right _ (by simp [he]))).kept hg ?_
    rcases b1 e he with h1 | h1
    · rw [h1]
      cases e.v.ownBlock <;> simp
    · exact .inr (fun e2 => h1 e2.symm)
  refine ⟨fun e he => ?_, fun e he => ?_, List.pairwise_append.2 ⟨a1, List.pairwise_cons.2 ⟨fun e he => b1 e he, b2⟩, fun e he f hf => ?_⟩⟩
  · rcases List.mem_append.1 he with he | he
    · exact hl e he
    · rcases List.mem_cons.1 he with rfl | he
      · exact ho
      · exact hm e he
  · rcases List.mem_append.1 he with he | he
    · exact h.small e (List.mem_append_left _ he)
    · rcases List.mem_cons.1 he with rfl | he
      · exact hs
      · exact h.small e (List.mem_append_right _ (by simp [he]))
  · rcases List.mem_cons.1 hf with rfl | hf
    · exact a3 e he d (by simp)
    · exact a3 e he f (by simp [hf])

end Go.Proofs.Ytejibpajjoaldaa
namespace Go.Proofs.Ytejibpajjoaldaa
open Go.RowKit

/-! ### files -/
def markE (k : Nat) (e : Ent) : Ent := ⟨mt k, ⟨e.d.A, e.d.n, e.d.c, marksK (k + 1) e.d.n⟩⟩
def markEs : Nat → List Ent → List Ent
  | _, [] => []
  | k, e :: r => markE k e :: markEs (k + 1 + e.d.n) r
def endEs : Nat → List Ent → Nat
  | k, [] => k
  | k, e :: r => endEs (k + 1 + e.d.n) r
theorem markEs_append : ∀ (xs ys : List Ent) (k : Nat), markEs k (xs ++ ys) = markEs k xs ++ markEs (endEs k xs) ys
  | [], _, _ => rfl
  | x :: r, ys, k => by simp [markEs, endEs, markEs_append r ys]
theorem endEs_append : ∀ (xs ys : List Ent) (k : Nat), endEs k (xs ++ ys) = endEs (endEs k xs) ys
  | [], _, _ => rfl
  | x :: r, ys, k => by simp [endEs, endEs_append r ys]
theorem endEs_le : ∀ (xs : List Ent) (k : Nat), k ≤ endEs k xs
  | [], _ => Nat.le_refl _
  | x :: r, k => by
    have := endEs_le r (k + 1 + x.d.n)
    simp only [endEs]
    omega
theorem markEs_length : ∀ (xs : List Ent) (k : Nat), (markEs k xs).length = xs.length
  | [], _ => rfl
  | x :: r, k => by simp [markEs, markEs_length r]
theorem markEs_blocks : ∀ (xs : List Ent) (k : Nat), (markEs k xs).map (fun e => e.d.v) = xs.map (fun e => e.d.v)
  | [], _ => rfl
  | x :: r, k => by
    rw [markEs, List.map_cons, List.map_cons, markEs_blocks r]
    rfl

def blkF (A : Option Addr) (es : List Ent) (b : Nat) : Prop := (∃ o s, A = some ⟨b, o, s⟩) ∨ ∃ e ∈ es, e.d.v.ownBlock = some b

def MarkedFs (w : World) (lo k : Nat) (A : Option Addr) (n c : Nat) (es : List Ent) (e : Ending) (w' : World) : Prop :=
  e = .returned (.int .i64 (endEs k es : Int)) ∧ w'.ownsRow lo 87 2 (.slice A n c) n ((markEs k es).flatMap Ent.cells) ∧ OwnB w' lo ((markEs k es).map Ent.d) ∧ Only (blkF A es) w w'

theorem markText_any' (k : Nat) (w : World) (h0 : 0 < k) (hk : k ≤ 4194304) : Calls Try.prog 68 #[.int .i64 (k : Int)] w fun e w' => e = .returned (.string (mt k)) ∧ Below w.heap.size w w' := markText_any k w h0 hk

set_option maxRecDepth 10000 in
set_option maxHeartbeats 1000000 in
theorem markFs_any (A : Option Addr) (n c lo k : Nat) (es : List Ent) (w : World) (hr : w.ownsRow lo 87 2 (.slice A n c) n (es.flatMap Ent.cells)) (hd : OwnB w lo (es.map Ent.d)) (hl : es.length = n) (hn : n ≤ 2097152) (hs : ∀ e ∈ es, e.d.n ≤ 2097152) (hk0 : 0 < k) (hk : endEs k es ≤ 4194304) :
    Calls Try.prog 29 #[.slice A n c, .int .i64 (k : Int)] w (MarkedFs w lo k A n c es) := by
  have HS := Lib.hid hs
  have HL := Lib.hid hl
  have HK := Lib.hid hk
  clear hs hl hk
  go_enter Try.func29, Try.ntmps29
  go_wp2
  go_loopw [1, 5] (fun t i wr => ∃ (j q : Nat) (pre post : List Ent), j ≤ n ∧ i = .int .i64 j ∧ t = .int .i64 (q : Int) ∧ Hid (q = endEs k pre) ∧ 0 < q ∧ Hid (es = pre ++ post) ∧ Hid (pre.length = j) ∧ wr.ownsRow lo 87 2 (.slice A n c) n ((markEs k pre ++ post).flatMap Ent.cells) ∧ OwnB wr lo ((markEs k pre ++ post).map Ent.d) ∧ Only (blkF A es) w wr) (fun _ i _ => n - (intOf i).toNat)
  case atStart => exact ⟨0, k, [], es, Nat.zero_le _, rfl, rfl, Lib.hid rfl, hk0, Lib.hid rfl, Lib.hid rfl, hr, hd, Only.refl _ _⟩
  case round =>
    obtain ⟨j, q, pre, post, hj, rfl, rfl, hq, hq0, hes, hpl, hown, hdat, honly⟩ := hrel
    by_cases hlt : j < n
    · obtain ⟨e, post, rfl⟩ : ∃ e r, post = e :: r := by
        cases post with
        | nil => exfalso; have := congrArg List.length hes.out; have := HL.out; have := hpl.out; simp at *; omega
        | cons e r => exact ⟨e, r, rfl⟩
      obtain ⟨g, cap, hv, hbase, hgl⟩ := hown.form (by omega)
      obtain ⟨rfl, -, rfl⟩ : A = some ⟨g, 0, none⟩ ∧ n = n ∧ c = cap := by injection hv with e1 e2 e3; exact ⟨e1, e2, e3⟩
      clear hv
      have hq2 : q + 1 + e.d.n ≤ 4194304 := by
        have h1 := HK.out
        rw [hes.out, endEs_append, endEs, ← hq.out] at h1
        have := endEs_le post (q + 1 + e.d.n)
        omega
      have hen : e.d.n ≤ 2097152 := HS.out e (by rw [hes.out]; simp)
      have C := Lib.hid (markText_any' q wr hq0 (by omega))
      have HO := Lib.hid hown
      have HD := Lib.hid hdat
      have HY := Lib.hid honly
      have hml : (markEs k pre).length = j := by rw [markEs_length, hpl.out]
      have HML := Lib.hid hml
      clear hown hdat honly hml
      go_wp2_with fail
      refine C.out.mono ?_
      rintro e1 w1 ⟨rfl, hb1⟩
      have hown1 := own_below HO.out hb1
      have hget : (markEs k pre ++ e :: post)[j]? = some e := by simp [HML.out]
      have hc0 : w1.cell? ⟨g, j * 2, none⟩ = some (.string e.nm) := by
        rw [hown1.cellAt (j * 2) (by omega)]
        exact flat_get Ent.cells 2 Ent.cells_len _ j 0 e hget (by omega)
      have hc1 : w1.cell? ⟨g, j * 2 + 1, none⟩ = some (.slice e.d.A e.d.n e.d.c) := by
        rw [hown1.cellAt (j * 2 + 1) (by omega)]
        exact flat_get Ent.cells 2 Ent.cells_len _ j 1 e hget (by omega)
      have hf0 := hown1.frozenAt (j * 2)
      have hst := hown1.stored (j * 2) (.string (mt q))
      have e2 := flat_set Ent.cells 2 Ent.cells_len (markEs k pre ++ e :: post) j 0 e ⟨mt q, e.d⟩ (.string (mt q)) hget (by omega) rfl
      rw [Nat.add_zero] at e2
      have e3 : (markEs k pre ++ e :: post).set j ⟨mt q, e.d⟩ = markEs k pre ++ ⟨mt q, e.d⟩ :: post := by
        rw [List.set_append_right _ _ (by rw [HML.out]; exact Nat.le_refl _), HML.out, Nat.sub_self]
        rfl
      rw [e2, e3] at hst
      obtain ⟨cur, hg0⟩ := own_block hown1
      have hd1 := HD.out.below hb1
      have hd2 := hd1.kept hst.2 (hd1.far hg0 (by decide))
      have HD2 := Lib.hid hd2
      have HST := Lib.hid hst
      have HB1 := Lib.hid hb1
      obtain ⟨cur2, hg02⟩ := own_block hst.1
      have HG := Lib.hid hg02
      have hmapd : (markEs k pre ++ e :: post).map Ent.d = (markEs k pre).map Ent.d ++ e.d :: post.map Ent.d := by simp
      rw [hmapd] at HD2
      have M := Lib.hid (markB_any e.d.A e.d.n e.d.c lo (q + 1) e.d.xs _ (HD2.out.own e.d (by simp)) hen (by omega))
      have eq1 : ((q + 1 : Nat) : Int) = (q : Int) + 1 := by omega
      rw [eq1] at M
      clear hown1 hst hd1 hd2 hb1 e2 e3 hget hg0 hg02 hmapd eq1
      go_wp2_with fail
      refine M.out.mono ?_
      rintro e1 w2 ⟨rfl, ho2, hg2⟩
      go_wp2
      go_roundw
      case rel =>
        have hen2 : markEs k (pre ++ [e]) = markEs k pre ++ [markE q e] := by rw [markEs_append, ← hq.out]; rfl
        refine ⟨j + 1, q + 1 + e.d.n, pre ++ [e], post, by omega, by go_num, rfl, Lib.hid ?_, by omega, Lib.hid ?_, Lib.hid (by simp [hpl.out]), ?_, ?_, ?_⟩
        · rw [endEs_append, ← hq.out]; rfl
        · rw [hes.out]; simp
        · have hcs : (markEs k (pre ++ [e]) ++ post).flatMap Ent.cells = (markEs k pre ++ ⟨mt q, e.d⟩ :: post).flatMap Ent.cells := by
            rw [hen2, List.append_assoc, List.flatMap_append, List.flatMap_append, List.flatMap_append, List.flatMap_cons]
            rfl
          rw [hcs]
          refine HST.out.1.kept hg2 (.inr (fun e4 => ?_))
          rcases HD2.out.far (HG.out) (by decide) e.d (by simp) with h5 | h5
          · rw [show (Value.slice e.d.A e.d.n e.d.c).ownBlock = none from h5] at e4
            cases e4
          · exact h5 e4.symm
        · rw [hen2, List.append_assoc, List.map_append]
          exact HD2.out.turn hg2 ho2 (marksK_small _ _)
        · refine ((HY.out.below HB1.out).grown HST.out.2 (fun i hi => ?_)).grown hg2 (fun i hi => ?_)
          · injection hi with hi
            subst hi
            exact .inl ⟨0, none, rfl⟩
          · exact .inr ⟨e, by rw [hes.out]; simp, hi⟩
      case measure => simp [intOf]; omega
    · obtain rfl : j = n := by omega
      have hpe : post = [] := by
        have h1 := congrArg List.length hes.out
        have h2 := HL.out
        have h3 := hpl.out
        rw [List.length_append] at h1
        exact List.eq_nil_of_length_eq_zero (by omega)
      subst hpe
      go_wp2
      go_ret
      have e1 := hes.out
      rw [List.append_nil] at e1 hown hdat
      subst e1
      exact ⟨ret_int (by rw [hq.out]), hown, hdat, honly⟩
end Go.Proofs.Ytejibpajjoaldaa
namespace Go.Proofs.Ytejibpajjoaldaa
open Go.RowKit

def markO (k : Nat) (e : OpE) : OpE := ⟨(k : Int), mt (k + 1), mt (k + 2), ⟨e.d.A, e.d.n, e.d.c, marksK (k + 3) e.d.n⟩⟩
def markOs : Nat → List OpE → List OpE
  | _, [] => []
  | k, e :: r => markO k e :: markOs (k + 3 + e.d.n) r
def endOs : Nat → List OpE → Nat
  | k, [] => k
  | k, e :: r => endOs (k + 3 + e.d.n) r
theorem markOs_append : ∀ (xs ys : List OpE) (k : Nat), markOs k (xs ++ ys) = markOs k xs ++ markOs (endOs k xs) ys
  | [], _, _ => rfl
  | x :: r, ys, k => by simp [markOs, endOs, markOs_append r ys]
theorem endOs_append : ∀ (xs ys : List OpE) (k : Nat), endOs k (xs ++ ys) = endOs (endOs k xs) ys
  | [], _, _ => rfl
  | x :: r, ys, k => by simp [endOs, endOs_append r ys]
theorem endOs_le : ∀ (xs : List OpE) (k : Nat), k ≤ endOs k xs
  | [], _ => Nat.le_refl _
  | x :: r, k => by
    have := endOs_le r (k + 3 + x.d.n)
    simp only [endOs]
    omega
theorem markOs_length : ∀ (xs : List OpE) (k : Nat), (markOs k xs).length = xs.length
  | [], _ => rfl
  | x :: r, k => by simp [markOs, markOs_length r]

def blkO (A : Option Addr) (es : List OpE) (b : Nat) : Prop := (∃ o s, A = some ⟨b, o, s⟩) ∨ ∃ e ∈ es, e.d.v.ownBlock = some b

def MarkedOs (w : World) (lo k : Nat) (A : Option Addr) (n c : Nat) (es : List OpE) (e : Ending) (w' : World) : Prop :=
  e = .returned (.int .i64 (endOs k es : Int)) ∧ w'.ownsRow lo 30 4 (.slice A n c) n ((markOs k es).flatMap OpE.cells) ∧ OwnB w' lo ((markOs k es).map OpE.d) ∧ Only (blkO A es) w w'

/-- One cell of one operation is written; its bytes stay. -/
theorem putO {w : World} {lo g n c j i : Nat} {pre post : List OpE} {e e' : OpE} {u : Value} (hr : w.ownsRow lo 30 4 (.slice (some ⟨g, 0, none⟩) n c) n ((pre ++ e :: post).flatMap OpE.cells)) (hd : OwnB w lo ((pre ++ e :: post).map OpE.d))
    (hj : pre.length = j) (hi : i < 4) (hc : e'.cells = e.cells.set i u) (hdd : e'.d = e.d) :
    (w.setCell ⟨g, j * 4 + i, none⟩ u).ownsRow lo 30 4 (.slice (some ⟨g, 0, none⟩) n c) n ((pre ++ e' :: post).flatMap OpE.cells) ∧ OwnB (w.setCell ⟨g, j * 4 + i, none⟩ u) lo ((pre ++ e' :: post).map OpE.d) ∧ w.grownBy (w.setCell ⟨g, j * 4 + i, none⟩ u) (some g) := by
  have hget : (pre ++ e :: post)[j]? = some e := by simp [hj]
  have hst := hr.stored (j * 4 + i) u
  have e3 : (pre ++ e :: post).set j e' = pre ++ e' :: post := by
    rw [List.set_append_right _ _ (by omega), hj, Nat.sub_self]
    rfl
  rw [flat_set OpE.cells 4 OpE.cells_len (pre ++ e :: post) j i e e' u hget hi hc, e3] at hst
  obtain ⟨cur, hg0⟩ := own_block hr
  have hm : (pre ++ e' :: post).map OpE.d = (pre ++ e :: post).map OpE.d := by simp [hdd]
  rw [hm]
  exact ⟨hst.1, hd.kept hst.2 (hd.far hg0 (by decide)), hst.2⟩
theorem cellO {w : World} {lo g n c j i : Nat} {pre post : List OpE} {e : OpE} (hr : w.ownsRow lo 30 4 (.slice (some ⟨g, 0, none⟩) n c) n ((pre ++ e :: post).flatMap OpE.cells)) (hj : pre.length = j) (hjn : j < n) (hi : i < 4) : w.cell? ⟨g, j * 4 + i, none⟩ = e.cells[i]? := by
  have hget : (pre ++ e :: post)[j]? = some e := by simp [hj]
  rw [hr.cellAt (j * 4 + i) (by omega)]
  exact flat_get OpE.cells 4 OpE.cells_len _ j i e hget hi

set_option maxRecDepth 10000 in
set_option maxHeartbeats 2000000 in
theorem markOs_any (A : Option Addr) (n c lo k : Nat) (es : List OpE) (w : World) (hr : w.ownsRow lo 30 4 (.slice A n c) n (es.flatMap OpE.cells)) (hd : OwnB w lo (es.map OpE.d)) (hl : es.length = n) (hn : n ≤ 2097152) (hs : ∀ e ∈ es, e.d.n ≤ 2097152) (hk0 : 0 < k) (hk : endOs k es ≤ 4194304) :
    Calls Try.prog 65 #[.slice A n c, .int .i64 (k : Int)] w (MarkedOs w lo k A n c es) := by
  have HS := Lib.hid hs
  have HL := Lib.hid hl
  have HK := Lib.hid hk
  clear hs hl hk
  go_enter Try.func65, Try.ntmps65
  go_wp2
  go_loopw [1, 5] (fun t i wr => ∃ (j q : Nat) (pre post : List OpE), j ≤ n ∧ i = .int .i64 j ∧ t = .int .i64 (q : Int) ∧ Hid (q = endOs k pre) ∧ 0 < q ∧ Hid (es = pre ++ post) ∧ Hid (pre.length = j) ∧ wr.ownsRow lo 30 4 (.slice A n c) n ((markOs k pre ++ post).flatMap OpE.cells) ∧ OwnB wr lo ((markOs k pre ++ post).map OpE.d) ∧ Only (blkO A es) w wr) (fun _ i _ => n - (intOf i).toNat)
  case atStart => exact ⟨0, k, [], es, Nat.zero_le _, rfl, rfl, Lib.hid rfl, hk0, Lib.hid rfl, Lib.hid rfl, hr, hd, Only.refl _ _⟩
  case round =>
    obtain ⟨j, q, pre, post, hj, rfl, rfl, hq, hq0, hes, hpl, hown, hdat, honly⟩ := hrel
    by_cases hlt : j < n
    · obtain ⟨e, post, rfl⟩ : ∃ e r, post = e :: r := by
        cases post with
        | nil => exfalso; have := congrArg List.length hes.out; have := HL.out; have := hpl.out; simp at *; omega
        | cons e r => exact ⟨e, r, rfl⟩
      obtain ⟨g, cap, hv, hbase, hgl⟩ := hown.form (by omega)
      obtain ⟨rfl, -, rfl⟩ : A = some ⟨g, 0, none⟩ ∧ n = n ∧ c = cap := by injection hv with e1 e2 e3; exact ⟨e1, e2, e3⟩
      clear hv
      have hq2 : q + 3 + e.d.n ≤ 4194304 := by
        have h1 := HK.out
        rw [hes.out, endOs_append, endOs, ← hq.out] at h1
        have := endOs_le post (q + 3 + e.d.n)
        omega
      have hen : e.d.n ≤ 2097152 := HS.out e (by rw [hes.out]; simp)
      have hml : (markOs k pre).length = j := by rw [markOs_length, hpl.out]
      have c0 : wr.cell? ⟨g, j * 4, none⟩ = some (.int .i64 e.kind) := cellO (e := e) (i := 0) hown hml hlt (by omega)
      have f0 := hown.frozenAt (j * 4)
      have S1 := Lib.hid (putO (e' := ⟨(q : Int), e.nm, e.to, e.d⟩) (i := 0) hown hdat hml (by omega) rfl rfl)
      have HY := Lib.hid honly
      have HML := Lib.hid hml
      have C1 := Lib.hid (fun W => markText_any' (q + 1) W (by omega) (by omega))
      have C2 := Lib.hid (fun W => markText_any' (q + 2) W (by omega) (by omega))
      have eq1 : ((q + 1 : Nat) : Int) = (q : Int) + 1 := by omega
      have eq2 : ((q + 2 : Nat) : Int) = (q : Int) + 1 + 1 := by omega
      have eq3 : ((q + 3 : Nat) : Int) = (q : Int) + 1 + 1 + 1 := by omega
      rw [eq1] at C1
      rw [eq2] at C2
      have EQ3 := Lib.hid eq3
      simp only [Nat.add_zero] at S1
      clear hown hdat honly hml eq1 eq2 eq3
      go_wp2_with fail
      refine (C1.out _).mono ?_
      rintro e1 w1 ⟨rfl, hb1⟩
      have r1 := own_below S1.out.1 hb1
      have d1 := S1.out.2.1.below hb1
      have c1 : w1.cell? ⟨g, j * 4 + 1, none⟩ = some (.string e.nm) := cellO (e := ⟨(q : Int), e.nm, e.to, e.d⟩) (i := 1) r1 HML.out hlt (by omega)
      have f1 := r1.frozenAt (j * 4 + 1)
      have S2 := Lib.hid (putO (e' := ⟨(q : Int), mt (q + 1), e.to, e.d⟩) (i := 1) r1 d1 HML.out (by omega) rfl rfl)
      have HB1 := Lib.hid hb1
      clear r1 d1 hb1
      go_wp2_with fail
      refine (C2.out _).mono ?_
      rintro e1 w2 ⟨rfl, hb2⟩
      have r2 := own_below S2.out.1 hb2
      have d2 := S2.out.2.1.below hb2
      have c2 : w2.cell? ⟨g, j * 4 + 2, none⟩ = some (.string e.to) := cellO (e := ⟨(q : Int), mt (q + 1), e.to, e.d⟩) (i := 2) r2 HML.out hlt (by omega)
      have c3 : w2.cell? ⟨g, j * 4 + 3, none⟩ = some (.slice e.d.A e.d.n e.d.c) := cellO (e := ⟨(q : Int), mt (q + 1), e.to, e.d⟩) (i := 3) r2 HML.out hlt (by omega)
      have f2 := r2.frozenAt (j * 4 + 2)
      have S3 := Lib.hid (putO (e' := ⟨(q : Int), mt (q + 1), mt (q + 2), e.d⟩) (i := 2) r2 d2 HML.out (by omega) rfl rfl)
      have HB2 := Lib.hid hb2
      have hmapd : (markOs k pre ++ (⟨(q : Int), mt (q + 1), mt (q + 2), e.d⟩ : OpE) :: post).map OpE.d = (markOs k pre).map OpE.d ++ e.d :: post.map OpE.d := by simp
      have D3 := Lib.hid S3.out.2.1
      rw [hmapd] at D3
      have M := Lib.hid (markB_any e.d.A e.d.n e.d.c lo (q + 3) e.d.xs _ (D3.out.own e.d (by simp)) hen (by omega))
      rw [EQ3.out] at M
      clear r2 d2 hb2 hmapd
      go_wp2_with fail
      refine M.out.mono ?_
      rintro e1 w3 ⟨rfl, ho3, hg3⟩
      go_wp2
      go_roundw
      case rel =>
        have hen2 : markOs k (pre ++ [e]) = markOs k pre ++ [markO q e] := by rw [markOs_append, ← hq.out]; rfl
        refine ⟨j + 1, q + 3 + e.d.n, pre ++ [e], post, by omega, by go_num, rfl, Lib.hid ?_, by omega, Lib.hid ?_, Lib.hid (by simp [hpl.out]), ?_, ?_, ?_⟩
        · rw [endOs_append, ← hq.out]; rfl
        · rw [hes.out]; simp
        · have hcs : (markOs k (pre ++ [e]) ++ post).flatMap OpE.cells = (markOs k pre ++ (⟨(q : Int), mt (q + 1), mt (q + 2), e.d⟩ : OpE) :: post).flatMap OpE.cells := by
            rw [hen2, List.append_assoc, List.flatMap_append, List.flatMap_append, List.flatMap_append, List.flatMap_cons]
            rfl
          rw [hcs]
          refine S3.out.1.kept hg3 (.inr (fun e4 => ?_))
          obtain ⟨cur, hg0⟩ := own_block S3.out.1
          rcases D3.out.far hg0 (by decide) e.d (by simp) with h5 | h5
          · rw [show (Value.slice e.d.A e.d.n e.d.c).ownBlock = none from h5] at e4
            cases e4
          · exact h5 e4.symm
        · rw [hen2, List.append_assoc, List.map_append]
          exact D3.out.turn hg3 ho3 (marksK_small _ _)
        · have hS : ∀ i, some g = some i → blkO (some ⟨g, 0, none⟩) es i := fun i hi => by
            injection hi with hi
            subst hi
            exact .inl ⟨0, none, rfl⟩
          exact (((((HY.out.grown S1.out.2.2 hS).below HB1.out).grown S2.out.2.2 hS).below HB2.out).grown S3.out.2.2 hS).grown hg3 (fun i hi => .inr ⟨e, by rw [hes.out]; simp, hi⟩)
      case measure => simp [intOf]; omega
    · obtain rfl : j = n := by omega
      have hpe : post = [] := by
        have h1 := congrArg List.length hes.out
        have h2 := HL.out
        have h3 := hpl.out
        rw [List.length_append] at h1
        exact List.eq_nil_of_length_eq_zero (by omega)
      subst hpe
      go_wp2
      go_ret
      have e1 := hes.out
      rw [List.append_nil] at e1 hown hdat
      subst e1
      exact ⟨ret_int (by rw [hq.out]), hown, hdat, honly⟩
end Go.Proofs.Ytejibpajjoaldaa
namespace Go.Proofs.Ytejibpajjoaldaa
open Go.RowKit

set_option maxRecDepth 10000 in
set_option maxHeartbeats 2000000 in
theorem heldFs_any (A : Option Addr) (n c k : Nat) (es : List Ent) (w : World) (hr : SlF w A n (markEs k es)) (hn : n ≤ 2097152) (hs : ∀ e ∈ es, e.d.n ≤ 2097152) (hk0 : 0 < k) (hk : endEs k es ≤ 4194304) :
    Calls Try.prog 30 #[.slice A n c, .int .i64 (k : Int)] w (Nums w (endEs k es)) := by
  have HS := Lib.hid hs
  have HR := Lib.hid hr
  have HK := Lib.hid hk
  have hlen : es.length = n := by have := hr.len; rw [markEs_length] at this; exact this
  have HL := Lib.hid hlen
  clear hs hr hk hlen
  go_enter Try.func30, Try.ntmps30
  go_wp2
  go_loopw [1, 5] (fun t i wr => ∃ (j q : Nat) (pre post : List Ent), j ≤ n ∧ i = .int .i64 j ∧ t = .int .i64 (q : Int) ∧ Hid (q = endEs k pre) ∧ 0 < q ∧ Hid (es = pre ++ post) ∧ Hid (pre.length = j) ∧ Below w.heap.size w wr) (fun _ i _ => n - (intOf i).toNat)
  case atStart => exact ⟨0, k, [], es, Nat.zero_le _, rfl, rfl, Lib.hid rfl, hk0, Lib.hid rfl, Lib.hid rfl, Below.refl _ _⟩
  case round =>
    obtain ⟨j, q, pre, post, hj, rfl, rfl, hq, hq0, hes, hpl, hbel⟩ := hrel
    by_cases hlt : j < n
    · obtain ⟨e, post, rfl⟩ : ∃ e r, post = e :: r := by
        cases post with
        | nil => exfalso; have := congrArg List.length hes.out; have := HL.out; have := hpl.out; simp at *; omega
        | cons e r => exact ⟨e, r, rfl⟩
      obtain ⟨b, off, e0, rfl, hbw, he, hok, c0, c1⟩ := HR.out.at_ hlt
      have he0 : e0 = markE q e := by
        have h1 := he.out
        rw [hes.out, markEs_append, ← hq.out, markEs, List.getElem?_append_right (by rw [markEs_length, hpl.out]; exact Nat.le_refl _), markEs_length, hpl.out, Nat.sub_self] at h1
        simpa using h1.symm
      subst he0
      have hq2 : q + 1 + e.d.n ≤ 4194304 := by
        have h1 := HK.out
        rw [hes.out, endEs_append, endEs, ← hq.out] at h1
        have := endEs_le post (q + 1 + e.d.n)
        omega
      have hen : e.d.n ≤ 2097152 := HS.out e (by rw [hes.out]; simp)
      have hbr : b < wr.heap.size := Nat.lt_of_lt_of_le hbw hbel.size
      have c0 : wr.cell? ⟨b, off + j * 2, none⟩ = some (.string (mt q)) := (hbel.cell (p := ⟨b, off + j * 2, none⟩) hbw).trans c0
      have c1 : wr.cell? ⟨b, off + j * 2 + 1, none⟩ = some (.slice e.d.A e.d.n e.d.c) := (hbel.cell (p := ⟨b, off + j * 2 + 1, none⟩) hbw).trans c1
      have C0 := fun W => markText_any' q W hq0 (by omega)
      have hxx : ((mt q).toList == (mt q).toList) = true := by simp
      generalize mt q = x at C0 c0 hxx
      have C := Lib.hid C0
      have H := Lib.hid (fun W (h : Below w.heap.size w W) => heldB_any e.d.A e.d.n e.d.c (q + 1) W (hok.out.rd.below h) hen (by omega))
      have eq1 : ((q + 1 : Nat) : Int) = (q : Int) + 1 := by omega
      rw [eq1] at H
      have HB := Lib.hid hbel
      clear C0 hbel eq1
      go_wp2
      go_region_with (go_at_call 68; ((with_reducible refine (C.out _).mono ?_)); rintro e1 w1 ⟨rfl, hb1⟩; have hcq : w1.cell? ⟨b, off + j * 2, none⟩ = some (.string x) := (hb1.cell (p := ⟨b, off + j * 2, none⟩) hbr).trans c0)
      all_goals
        have hb2 : Below w.heap.size w w1 := by first | exact HB.out.trans (hb1.mono HB.out.size) | exact HB.out.drew.trans (hb1.mono HB.out.size)
        have hcr : w1.cell? ⟨b, off + j * 2 + 1, none⟩ = some (.slice e.d.A e.d.n e.d.c) := (hb1.cell (p := ⟨b, off + j * 2 + 1, none⟩) hbr).trans c1
        go_wp2_with fail
        refine (H.out _ (by first | exact hb2 | exact hb2.drew)).mono ?_
        rintro e1 w2 ⟨rfl, rfl⟩
        go_wp2
        go_roundw
        case rel => exact ⟨j + 1, q + 1 + e.d.n, pre ++ [e], post, by omega, by go_num, rfl, Lib.hid (by rw [endEs_append, ← hq.out]; rfl), by omega, Lib.hid (by rw [hes.out]; simp), Lib.hid (by simp [hpl.out]), by first | exact hb2 | exact hb2.drew⟩
        case measure => simp [intOf]; omega
    · obtain rfl : j = n := by omega
      have hpe : post = [] := by
        have h1 := congrArg List.length hes.out
        have h2 := HL.out
        have h3 := hpl.out
        rw [List.length_append] at h1
        exact List.eq_nil_of_length_eq_zero (by omega)
      subst hpe
      go_wp2
      go_ret
      have e1 := hes.out
      rw [List.append_nil] at e1
      subst e1
      exact ⟨ret_int (by rw [hq.out]), hbel⟩

set_option maxRecDepth 10000 in
set_option maxHeartbeats 2000000 in
theorem heldOs_any (A : Option Addr) (n c k : Nat) (es : List OpE) (w : World) (hr : SlO w A n (markOs k es)) (hn : n ≤ 2097152) (hs : ∀ e ∈ es, e.d.n ≤ 2097152) (hk0 : 0 < k) (hk : endOs k es ≤ 4194304) :
    Calls Try.prog 66 #[.slice A n c, .int .i64 (k : Int)] w (Nums w (endOs k es)) := by
  have HS := Lib.hid hs
  have HR := Lib.hid hr
  have HK := Lib.hid hk
  have hlen : es.length = n := by have := hr.len; rw [markOs_length] at this; exact this
  have HL := Lib.hid hlen
  clear hs hr hk hlen
  go_enter Try.func66, Try.ntmps66
  go_wp2
  go_loopw [1, 5] (fun t i wr => ∃ (j q : Nat) (pre post : List OpE), j ≤ n ∧ i = .int .i64 j ∧ t = .int .i64 (q : Int) ∧ Hid (q = endOs k pre) ∧ 0 < q ∧ Hid (es = pre ++ post) ∧ Hid (pre.length = j) ∧ Below w.heap.size w wr) (fun _ i _ => n - (intOf i).toNat)
  case atStart => exact ⟨0, k, [], es, Nat.zero_le _, rfl, rfl, Lib.hid rfl, hk0, Lib.hid rfl, Lib.hid rfl, Below.refl _ _⟩
  case round =>
    obtain ⟨j, q, pre, post, hj, rfl, rfl, hq, hq0, hes, hpl, hbel⟩ := hrel
    by_cases hlt : j < n
    · obtain ⟨e, post, rfl⟩ : ∃ e r, post = e :: r := by
        cases post with
        | nil => exfalso; have := congrArg List.length hes.out; have := HL.out; have := hpl.out; simp at *; omega
        | cons e r => exact ⟨e, r, rfl⟩
      obtain ⟨b, off, e0, rfl, hbw, he, hok, c0, c1, c2, c3⟩ := HR.out.at_ hlt
      have he0 : e0 = markO q e := by
        have h1 := he.out
        rw [hes.out, markOs_append, ← hq.out, markOs, List.getElem?_append_right (by rw [markOs_length, hpl.out]; exact Nat.le_refl _), markOs_length, hpl.out, Nat.sub_self] at h1
        simpa using h1.symm
      subst he0
      have hq2 : q + 3 + e.d.n ≤ 4194304 := by
        have h1 := HK.out
        rw [hes.out, endOs_append, endOs, ← hq.out] at h1
        have := endOs_le post (q + 3 + e.d.n)
        omega
      have hen : e.d.n ≤ 2097152 := HS.out e (by rw [hes.out]; simp)
      have hbr : b < wr.heap.size := Nat.lt_of_lt_of_le hbw hbel.size
      have c0 : wr.cell? ⟨b, off + j * 4, none⟩ = some (.int .i64 (q : Int)) := (hbel.cell (p := ⟨b, off + j * 4, none⟩) hbw).trans c0
      have c1 : wr.cell? ⟨b, off + j * 4 + 1, none⟩ = some (.string (mt (q + 1))) := (hbel.cell (p := ⟨b, off + j * 4 + 1, none⟩) hbw).trans c1
      have c2 : wr.cell? ⟨b, off + j * 4 + 2, none⟩ = some (.string (mt (q + 2))) := (hbel.cell (p := ⟨b, off + j * 4 + 2, none⟩) hbw).trans c2
      have c3 : wr.cell? ⟨b, off + j * 4 + 3, none⟩ = some (.slice e.d.A e.d.n e.d.c) := (hbel.cell (p := ⟨b, off + j * 4 + 3, none⟩) hbw).trans c3
      have C0 := fun W => markText_any' (q + 1) W (by omega) (by omega)
      have C1 := fun W => markText_any' (q + 2) W (by omega) (by omega)
      have hxx : ((mt (q + 1)).toList == (mt (q + 1)).toList) = true := by simp
      have hyy : ((mt (q + 2)).toList == (mt (q + 2)).toList) = true := by simp
      generalize mt (q + 1) = x at C0 c1 hxx
      generalize mt (q + 2) = y at C1 c2 hyy
      have H := Lib.hid (fun W (h : Below w.heap.size w W) => heldB_any e.d.A e.d.n e.d.c (q + 3) W (hok.out.rd.below h) hen (by omega))
      have eq1 : ((q + 1 : Nat) : Int) = (q : Int) + 1 := by omega
      have eq2 : ((q + 2 : Nat) : Int) = (q : Int) + 1 + 1 := by omega
      have eq3 : ((q + 3 : Nat) : Int) = (q : Int) + 1 + 1 + 1 := by omega
      rw [eq1] at C0
      rw [eq2] at C1
      rw [eq3] at H
      have C := Lib.hid C0
      have D := Lib.hid C1
      have HB := Lib.hid hbel
      clear C0 C1 hbel eq1 eq2 eq3
      go_wp2
      go_region_with (go_at_call 68; ((with_reducible refine (C.out _).mono ?_)); rintro e1 w1 ⟨rfl, hb1⟩; have hcq : w1.cell? ⟨b, off + j * 4 + 1, none⟩ = some (.string x) := (hb1.cell (p := ⟨b, off + j * 4 + 1, none⟩) hbr).trans c1)
      all_goals
        have hb2 : Below w.heap.size w w1 := by first | exact HB.out.trans (hb1.mono HB.out.size) | exact HB.out.drew.trans (hb1.mono HB.out.size)
        have hc2 : w1.cell? ⟨b, off + j * 4 + 2, none⟩ = some (.string y) := (hb1.cell (p := ⟨b, off + j * 4 + 2, none⟩) hbr).trans c2
        have hc3 : w1.cell? ⟨b, off + j * 4 + 3, none⟩ = some (.slice e.d.A e.d.n e.d.c) := (hb1.cell (p := ⟨b, off + j * 4 + 3, none⟩) hbr).trans c3
        have hbr1 : b < w1.heap.size := Nat.lt_of_lt_of_le hbw hb2.size
        have HB2 := Lib.hid hb2
        clear hb2 hb1 hcq c1 c2 c3 c0
        go_wp2
        go_region_with (go_at_call 68; ((with_reducible refine (D.out _).mono ?_)); rintro e1 w2 ⟨rfl, hb3⟩; have hcq : w2.cell? ⟨b, off + j * 4 + 2, none⟩ = some (.string y) := (hb3.cell (p := ⟨b, off + j * 4 + 2, none⟩) hbr1).trans hc2)
        all_goals
          have hb4 : Below w.heap.size w w2 := by first | exact HB2.out.trans (hb3.mono HB2.out.size) | exact HB2.out.drew.trans (hb3.mono HB2.out.size) | exact HB2.out.drew.drew.trans (hb3.mono HB2.out.size)
          have hc4 : w2.cell? ⟨b, off + j * 4 + 3, none⟩ = some (.slice e.d.A e.d.n e.d.c) := (hb3.cell (p := ⟨b, off + j * 4 + 3, none⟩) hbr1).trans hc3
          go_wp2_with fail
          refine (H.out _ (by first | exact hb4 | exact hb4.drew)).mono ?_
          rintro e1 w3 ⟨rfl, rfl⟩
          go_wp2
          go_roundw
          case rel => exact ⟨j + 1, q + 3 + e.d.n, pre ++ [e], post, by omega, by go_num, rfl, Lib.hid (by rw [endOs_append, ← hq.out]; rfl), by omega, Lib.hid (by rw [hes.out]; simp), Lib.hid (by simp [hpl.out]), by first | exact hb4 | exact hb4.drew⟩
          case measure => simp [intOf]; omega
    · obtain rfl : j = n := by omega
      have hpe : post = [] := by
        have h1 := congrArg List.length hes.out
        have h2 := HL.out
        have h3 := hpl.out
        rw [List.length_append] at h1
        exact List.eq_nil_of_length_eq_zero (by omega)
      subst hpe
      go_wp2
      go_ret
      have e1 := hes.out
      rw [List.append_nil] at e1
      subst e1
      exact ⟨ret_int (by rw [hq.out]), hbel⟩
end Go.Proofs.Ytejibpajjoaldaa
namespace Go.Proofs.Ytejibpajjoaldaa
open Go.RowKit

section
variable {w w' : World} {lo c d : Nat} {A B : Option Addr} {es : List Ent} {os : List OpE} {S : Nat → Prop}
theorem own_only {e size n : Nat} {v : Value} {xs : List Value} (h : w.ownsRow lo e size v n xs) (ho : Only S w w') (hs : ∀ k, v.ownBlock = some k → ¬ S k) : w'.ownsRow lo e size v n xs := by
  have hlt := h.lt
  obtain ⟨h1, h2⟩ := h
  refine ⟨h1, ?_⟩
  rcases h2 with h2 | ⟨g, cap, cur, e, hb, hg, r⟩
  · exact .inl h2
  · exact .inr ⟨g, cap, cur, e, hb, (ho.block g (lt_of_block hg) (hs g (by rw [e]; rfl))).trans hg, r⟩
theorem OwnB.only {l : List Dat} (h : OwnB w lo l) (ho : Only S w w') (hs : ∀ e ∈ l, ∀ k, e.v.ownBlock = some k → ¬ S k) : OwnB w' lo l :=
  ⟨fun e he => own_only (h.own e he) ho (hs e he), h.small, h.apart⟩
theorem OwnF.only (h : OwnF w lo A c es) (ho : Only S w w') (hs : ∀ k, blkF A es k → ¬ S k) : OwnF w' lo A c es :=
  ⟨own_only h.row ho (fun k hk => hs k (.inl (by
    rcases A with _ | ⟨b, o, s⟩
    · cases hk
    · simp [Value.ownBlock] at hk; subst hk; exact ⟨o, s, rfl⟩))), h.dat.only ho (fun e he k hk => by
    obtain ⟨x, hx, rfl⟩ := List.mem_map.1 he
    exact hs k (.inr ⟨x, hx, hk⟩))⟩
theorem OwnO.only (h : OwnO w lo A c os) (ho : Only S w w') (hs : ∀ k, blkO A os k → ¬ S k) : OwnO w' lo A c os :=
  ⟨own_only h.row ho (fun k hk => hs k (.inl (by
    rcases A with _ | ⟨b, o, s⟩
    · cases hk
    · simp [Value.ownBlock] at hk; subst hk; exact ⟨o, s, rfl⟩))), h.dat.only ho (fun e he k hk => by
    obtain ⟨x, hx, rfl⟩ := List.mem_map.1 he
    exact hs k (.inr ⟨x, hx, hk⟩))⟩
theorem row_block {e size n m : Nat} {b o : Nat} {s : _} {xs : List Value} (h : w.ownsRow lo e size (.slice (some ⟨b, o, s⟩) n c) m xs) : ∃ cur, w.heap[b]? = some (.cells cur e (0, 0)) := by
  rcases h.2 with ⟨h2, _⟩ | ⟨g', cap, cur, e, _, hg, _⟩
  · cases h2
  · injection e with e1 _ _
    injection e1 with e1
    injection e1 with e1
    subst e1
    exact ⟨cur, hg⟩
theorem row_lt {e size n m : Nat} {b o : Nat} {s : _} {xs : List Value} (h : w.ownsRow lo e size (.slice (some ⟨b, o, s⟩) n c) m xs) : lo ≤ b ∧ b < w.heap.size := h.lt b rfl
/-- The blocks of the files and the blocks of the operations are other ones. -/
theorem OwnD.sep (h : OwnD w lo A c B d es os) (k : Nat) (h1 : blkF A es k) : ¬ blkO B os k := by
  intro h2
  rcases h1 with ⟨o, s, rfl⟩ | ⟨e, he, hk⟩
  · obtain ⟨cur, hg⟩ := row_block h.f.row
    rcases h2 with ⟨o', s', rfl⟩ | ⟨e', he', hk'⟩
    · obtain ⟨cur', hg'⟩ := row_block h.o.row
      rw [hg] at hg'
      injection hg' with hg'
      injection hg' with _ h3
      exact absurd h3 (by decide)
    · rcases h.o.dat.far hg (by decide) e'.d (List.mem_map.2 ⟨e', he', rfl⟩) with h5 | h5
      · rw [h5] at hk'; cases hk'
      · exact h5 hk'
  · rcases h2 with ⟨o', s', rfl⟩ | ⟨e', he', hk'⟩
    · obtain ⟨cur', hg'⟩ := row_block h.o.row
      rcases h.f.dat.far hg' (by decide) e.d (List.mem_map.2 ⟨e, he, rfl⟩) with h5 | h5
      · rw [h5] at hk; cases hk
      · exact h5 hk
    · rcases h.x e.d (List.mem_map.2 ⟨e, he, rfl⟩) e'.d (List.mem_map.2 ⟨e', he', rfl⟩) with h5 | h5
      · rw [h5] at hk; cases hk
      · exact h5 (hk.trans hk'.symm)
theorem OwnD.inF (h : OwnF w lo A c es) (k : Nat) (h1 : blkF A es k) : lo ≤ k ∧ k < w.heap.size := by
  rcases h1 with ⟨o, s, rfl⟩ | ⟨e, he, hk⟩
  · exact row_lt h.row
  · exact h.dat.lt (List.mem_map.2 ⟨e, he, rfl⟩) k hk
theorem OwnD.inO (h : OwnO w lo A c os) (k : Nat) (h1 : blkO A os k) : lo ≤ k ∧ k < w.heap.size := by
  rcases h1 with ⟨o, s, rfl⟩ | ⟨e, he, hk⟩
  · exact row_lt h.row
  · exact h.dat.lt (List.mem_map.2 ⟨e, he, rfl⟩) k hk
end

theorem mem_markEs {e' : Ent} : ∀ {es : List Ent} {k : Nat}, e' ∈ markEs k es → ∃ e ∈ es, e'.d.v = e.d.v
  | [], _, h => by cases h
  | e :: r, k, h => by
    rcases List.mem_cons.1 h with rfl | h
    · exact ⟨e, by simp, rfl⟩
    · obtain ⟨x, hx, hv⟩ := mem_markEs h
      exact ⟨x, by simp [hx], hv⟩
theorem mem_markOs {e' : OpE} : ∀ {es : List OpE} {k : Nat}, e' ∈ markOs k es → ∃ e ∈ es, e'.d.v = e.d.v
  | [], _, h => by cases h
  | e :: r, k, h => by
    rcases List.mem_cons.1 h with rfl | h
    · exact ⟨e, by simp, rfl⟩
    · obtain ⟨x, hx, hv⟩ := mem_markOs h
      exact ⟨x, by simp [hx], hv⟩

def MarkedD (w : World) (lo k : Nat) (A : Option Addr) (c : Nat) (B : Option Addr) (d : Nat) (es : List Ent) (os : List OpE) (e : Ending) (w' : World) : Prop :=
  e = .returned (.int .i64 (endOs (endEs k es) os : Int)) ∧ OwnD w' lo A c B d (markEs k es) (markOs (endEs k es) os) ∧ Only (fun b => blkF A es b ∨ blkO B os b) w w'

set_option maxHeartbeats 1000000 in
theorem markDisk_any (room fuse : Int) (A : Option Addr) (c : Nat) (B : Option Addr) (d : Nat) (lo k : Nat) (es : List Ent) (os : List OpE) (w : World) (h : OwnD w lo A c B d es os)
    (hn : es.length ≤ 2097152) (hs : ∀ e ∈ es, e.d.n ≤ 2097152) (hm : os.length ≤ 2097152) (ht : ∀ e ∈ os, e.d.n ≤ 2097152) (hk0 : 0 < k) (hk : endOs (endEs k es) os ≤ 4194304) :
    Calls Try.prog 25 #[.agg #[.int .i64 room, .int .i64 fuse, .slice A es.length c, .slice B os.length d], .int .i64 (k : Int)] w (MarkedD w lo k A c B d es os) := by
  have hke := endOs_le os (endEs k es)
  have hkf := endEs_le es k
  have H := Lib.hid h
  have ha := fun o : Obj => h.below (below_a1 w o)
  have C := Lib.hid (fun o => markFs_any A es.length c lo k es (w.alloc o) (ha o).f.row (ha o).f.dat rfl hn hs hk0 (by omega))
  have D := Lib.hid (fun W (hw : OwnO W lo B d os) => markOs_any B os.length d lo (endEs k es) os W hw.row hw.dat rfl hm ht (by omega) hk)
  clear ha h hs ht hk hke
  go_enter Try.func25, Try.ntmps25
  go_wp2_with fail
  refine (C.out _).mono ?_
  rintro e w1 ⟨rfl, hr1, hd1, hy1⟩
  have hD0 := H.out.below (below_a1 w (.cells #[.int .i64 room, .int .i64 fuse, .slice A es.length c, .slice B os.length d] 26))
  have ho1 : OwnO w1 lo B d os := hD0.o.only hy1 (fun i hi hf => hD0.sep i hf hi)
  have hf1 : OwnF w1 lo A c (markEs k es) := ⟨by rw [markEs_length]; exact hr1, hd1⟩
  have hx1 : ∀ a ∈ (markEs k es).map Ent.d, ∀ b ∈ os.map OpE.d, Apart a b := fun a ha b hb => by
    obtain ⟨x, hx, rfl⟩ := List.mem_map.1 ha
    obtain ⟨y, hy, hv⟩ := mem_markEs hx
    have := hD0.x y.d (List.mem_map.2 ⟨y, hy, rfl⟩) b hb
    unfold Apart at *
    rw [hv]
    exact this
  have HD1 : Hid (OwnD w1 lo A c B d (markEs k es) os) := Lib.hid ⟨hf1, ho1, hx1⟩
  have hnb : ¬ blkF A es w.heap.size := fun hh => by
    have := (OwnD.inF H.out.f _ hh).2
    omega
  have hc3 : w1.cell? ⟨w.heap.size, 3, none⟩ = some (.slice B os.length d) := by
    rw [World.cell?_of_block (w := w.alloc _) (hy1.block w.heap.size (by simp) hnb)]
    simp
  have HY1 := Lib.hid hy1
  clear hy1 hf1 ho1 hx1 hr1 hd1 hD0 hnb
  go_wp2_with fail
  refine (D.out _ HD1.out.o).mono ?_
  rintro e w2 ⟨rfl, hr2, hd2, hy2⟩
  go_wp2
  go_ret
  refine ⟨rfl, ⟨HD1.out.f.only hy2 (fun i hi => HD1.out.sep i hi), ⟨by rw [markOs_length]; exact hr2, hd2⟩, fun a ha b hb => ?_⟩, ?_⟩
  · obtain ⟨x, hx, rfl⟩ := List.mem_map.1 hb
    obtain ⟨y, hy, hv⟩ := mem_markOs hx
    have := HD1.out.x a ha y.d (List.mem_map.2 ⟨y, hy, rfl⟩)
    unfold Apart at *
    rw [hv]
    exact this
  · have h0 : Only (fun b => blkF A es b ∨ blkO B os b) w (w.alloc (.cells #[.int .i64 room, .int .i64 fuse, .slice A es.length c, .slice B os.length d] 26)) := (Only.refl _ _).below (below_a1 _ _)
    exact (h0.trans (HY1.out.mono (fun _ => .inl))).trans (hy2.mono (fun _ => .inr))

set_option maxHeartbeats 1000000 in
theorem heldDisk_any (room fuse : Int) (A : Option Addr) (n c : Nat) (B : Option Addr) (m d : Nat) (k : Nat) (es : List Ent) (os : List OpE) (w : World) (hf : SlF w A n (markEs k es)) (ho : SlO w B m (markOs (endEs k es) os))
    (hn : n ≤ 2097152) (hs : ∀ e ∈ es, e.d.n ≤ 2097152) (hm : m ≤ 2097152) (ht : ∀ e ∈ os, e.d.n ≤ 2097152) (hk0 : 0 < k) (hk : endOs (endEs k es) os ≤ 4194304) :
    Calls Try.prog 27 #[.agg #[.int .i64 room, .int .i64 fuse, .slice A n c, .slice B m d], .int .i64 (k : Int)] w (Nums w (endOs (endEs k es) os)) := by
  have hke := endOs_le os (endEs k es)
  have hkf := endEs_le es k
  have C := Lib.hid (fun W (h : Below w.heap.size w W) => heldFs_any A n c k es W (hf.below h) hn hs hk0 (by omega))
  have D := Lib.hid (fun W (h : Below w.heap.size w W) => heldOs_any B m d (endEs k es) os W (ho.below h) hm ht (by omega) hk)
  have h1 : (0 : Int) ≤ (endEs k es : Int) := by omega
  have h2 : (0 : Int) ≤ (endOs (endEs k es) os : Int) := by omega
  clear hf ho hs ht hk hke
  go_enter Try.func27, Try.ntmps27
  go_wp2_with fail
  refine (C.out _ (below_a1 _ _)).mono ?_
  rintro e w1 ⟨rfl, hb1⟩
  obtain ⟨hc, hfz⟩ := bcell hb1
  have HB := Lib.hid ((below_a1 w _).trans (hb1.mono (by simp)))
  clear hb1
  go_wp2_with fail
  refine (D.out _ HB.out).mono ?_
  rintro e w2 ⟨rfl, hb2⟩
  go_wp2
  go_ret
  exact ⟨rfl, HB.out.trans (hb2.mono HB.out.size)⟩

set_option maxHeartbeats 1000000 in
theorem markOp_any (kind : Int) (s t : ByteArray) (A : Option Addr) (n c lo k : Nat) (xs : List Nat) (w : World) (ho : w.ownsRow lo 5 1 (.slice A n c) n (vb xs)) (hn : n ≤ 2097152) (hk : k ≤ 8388608) :
    Calls Try.prog 26 #[.agg #[.int .i64 kind, .string s, .string t, .slice A n c], .int .i64 (k : Int)] w
      fun e w' => e = .returned (.int .i64 ((k + n : Nat) : Int)) ∧ Only (fun b => (Value.slice A n c).ownBlock = some b) w w' := by
  have C := Lib.hid (fun o => markB_any A n c lo k xs (w.alloc o) (own_below ho (below_a1 w o)) hn hk)
  clear ho
  go_enter Try.func26, Try.ntmps26
  go_wp2_with fail
  refine (C.out _).mono ?_
  rintro e w1 ⟨rfl, ho1, hg1⟩
  go_wp2
  go_ret
  exact ⟨rfl, ((Only.refl _ _).below (below_a1 _ _)).grown hg1 (fun _ h => h)⟩
end Go.Proofs.Ytejibpajjoaldaa
