/- A map from names to slices of bytes in memory: each slice reads; one that has spare room is of the call's own, and no other lies in its block. The contract of the program's function that adds the sizes up. -/
import Derived.Test.YtfcomnpoehpgiaaMapMath
import Derived.Test.YtfcomnpoehpgiaaImplLim
import Derived.Sort.KeysCollected
namespace Go.Proofs.Ytfcomnpoehpgiaa
open Go.RowKit Go.Maps

theorem Try.keyed : Keyed Try.prog 9 := string_keyed Try.underlying9

structure MapIs (w : World) (lo mb : Nat) (es : List Ent) : Prop where
  own : w.ownsMap Try.prog 9 rawR mb es.length (mapD es)
  base : lo ≤ mb
  ok : ∀ e ∈ es, e.d.Ok w
  room : ∀ e ∈ es, e.d.n < e.d.c → w.ownsRow lo 5 1 e.d.v e.d.n (vb e.d.xs)
  apart : es.Pairwise (fun a b => (a.d.n < a.d.c ∨ b.d.n < b.d.c) → a.d.c = 0 ∨ b.d.c = 0 ∨ Apart a.d b.d)

theorem tight {w : World} {P : Program} {k : TypeId} {R : Value → Option (DataW Value × List MemPlace)} {b n : Nat} {es : List Ent} (h : w.ownsMap P k R b n (mapD es)) : w.ownsMap P k R b es.length (mapD es) := by
  obtain ⟨a, clock, hb, F, hs, hD⟩ := h
  refine ⟨a, clock, hb, F, ?_, hD⟩
  have := congrArg Maps.size hD
  rw [mapD_size] at this
  simp only [Maps.size, length_sorted, List.length_map, Array.length_toList] at this
  omega

theorem MapIs.lt {w : World} {lo mb : Nat} {es : List Ent} (h : MapIs w lo mb es) : mb < w.heap.size := h.own.lt
theorem MapIs.below {w w' : World} {lo mb : Nat} {es : List Ent} (h : MapIs w lo mb es) (hb : Below w.heap.size w w') : MapIs w' lo mb es :=
  ⟨h.own.kept (grownBy_of_below hb none) (by simp), h.base, fun e he => (h.ok e he).below hb, fun e he hc => own_below (h.room e he hc) hb, h.apart⟩
theorem MapIs.drew {w : World} {lo mb : Nat} {es : List Ent} (h : MapIs w lo mb es) : MapIs w.drew lo mb es := h.below ((Below.refl _ _).drew)
theorem MapIs.nodup {w : World} {lo mb : Nat} {es : List Ent} (h : MapIs w lo mb es) : es.Pairwise (fun a b => a.nm ≠ b.nm) := by
  obtain ⟨l, hl, hp, _⟩ := h.own.entries Try.keyed
  have : es.map entD = l := by injection hl
  subst this
  rw [List.pairwise_map] at hp
  exact hp.imp (fun {a b} hab e => hab (by simp only [entD, e]))
theorem MapIs.tot {w : World} {lo mb : Nat} {es : List Ent} (h : MapIs w lo mb es) : totE es = totF (es.map Ent.file) := totE_file es h.ok

/-- What has been met of a range. -/
def metSum (left : Lit → Bool) (es : List Ent) : Nat := ((es.filter fun e => !left (nmL e.nm)).map fun e => e.d.n).sum
theorem metSum_start (es : List Ent) : metSum (Maps.has (mapD es)) es = 0 := by
  unfold metSum
  rw [List.filter_eq_nil_iff.2]
  · rfl
  · intro e he
    simp only [Bool.not_eq_true', Bool.not_eq_false]
    rw [mapD_has]
    unfold hasK
    rw [List.any_eq_true]
    exact ⟨e, he, by simp⟩
theorem metSum_end (left : Lit → Bool) (es : List Ent) (h : ∀ k, left k = false) : metSum left es = totE es := by
  unfold metSum totE
  rw [List.filter_eq_self.2]
  intro e _
  simp [h]
theorem metSum_cons (left : Lit → Bool) (e : Ent) (r : List Ent) : metSum left (e :: r) = (if left (nmL e.nm) then 0 else e.d.n) + metSum left r := by
  unfold metSum
  rw [List.filter_cons]
  cases left (nmL e.nm) <;> simp
theorem metSum_none {left left' : Lit → Bool} : ∀ (es : List Ent), (∀ e ∈ es, left' (nmL e.nm) = left (nmL e.nm)) → metSum left' es = metSum left es
  | [], _ => rfl
  | e :: r, h => by rw [metSum_cons, metSum_cons, h e (by simp), metSum_none r (fun x hx => h x (by simp [hx]))]
theorem metSum_step {left : Lit → Bool} {s : ByteArray} : ∀ {es : List Ent} {e : Ent}, es.Pairwise (fun a b => a.nm ≠ b.nm) → findK Ent.nm s es = some e → left (nmL s) = true → metSum (fun z => left z && !z.sameKey (nmL s)) es = metSum left es + e.d.n
  | [], e, _, h, _ => by simp [findK] at h
  | a :: r, e, hp, h, hl => by
    obtain ⟨h1, h2⟩ := List.pairwise_cons.1 hp
    rw [metSum_cons, metSum_cons]
    by_cases ha : a.nm = s
    · have he : a = e := by simpa [findK, ha] using h
      subst he
      have hr : metSum (fun z => left z && !z.sameKey (nmL s)) r = metSum left r := metSum_none r (fun x hx => by
        have : x.nm ≠ s := fun e => h1 x hx (by rw [ha, e])
        simp only [sameKey_nm, this, decide_false, Bool.not_false, Bool.and_true])
      rw [hr, ha, hl, sameKey_nm]
      simp
      omega
    · have h3 : findK Ent.nm s r = some e := by simpa [findK, ha] using h
      rw [metSum_step h2 h3 hl, sameKey_nm]
      simp only [ha, decide_false, Bool.not_false, Bool.and_true]
      omega
theorem metSum_le (left : Lit → Bool) : ∀ (es : List Ent), metSum left es ≤ totE es
  | [] => Nat.le_refl _
  | e :: r => by
    have ih := metSum_le left r
    rw [metSum_cons]
    have : totE (e :: r) = e.d.n + totE r := by simp [totE]
    split <;> omega

def mkSl (t : Option Addr × Nat × Nat) : Value := .slice t.1 t.2.1 t.2.2
theorem rawR_inv (v : Value) (y : DataW Value × List MemPlace) (h : rawR v = some y) : ∃ t, v = mkSl t := by
  unfold rawR at h
  cases v <;> simp at h
  exact ⟨(_, _, _), rfl⟩
theorem rawR_held {t : Option Addr × Nat × Nat} {d : DataW Value} {p : List MemPlace} (h : rawR (mkSl t) = some (d, p)) : d = .held (mkSl t) := by
  simp only [rawR, mkSl, Option.some.injEq, Prod.mk.injEq] at h
  rw [← h.1]
  rfl
theorem strKey (key : Value) (kl : Lit) (h : keyOf Try.prog 9 key = some kl) : ∃ x : ByteArray, key = .string x := by
  obtain ⟨x, hx, _⟩ := Maps.keyOf_str Try.underlying9 h
  exact ⟨⟨x.toArray⟩, hx⟩
theorem strKey_nm {x : ByteArray} {kl : Lit} (h : keyOf Try.prog 9 (.string x) = some kl) : kl = nmL x := by
  obtain ⟨y, hy, hk, _⟩ := Maps.keyOf_str Try.underlying9 h
  have : x = ⟨y.toArray⟩ := by injection hy
  rw [hk, this]
  simp [nmL]
/-- The entry that a step of a range hands out. -/
theorem met_entry {es : List Ent} {x : ByteArray} {t : Option Addr × Nat × Nat} {d : DataW Value} (hat : ∀ zd, (mapD es).atKey (nmL x) zd = d) (hd : d = .held (mkSl t)) : ∃ e, findK Ent.nm x es = some e ∧ t = (e.d.A, e.d.n, e.d.c) := by
  have h1 := hat .nil
  rw [mapD_at] at h1
  cases hf : findK Ent.nm x es with
  | none => rw [hf, hd] at h1; simp at h1
  | some e =>
    rw [hf, hd] at h1
    simp only [Option.map_some, Option.getD_some, DataW.held.injEq, mkSl, Value.slice.injEq] at h1
    exact ⟨e, rfl, by rw [h1.1, h1.2.1, h1.2.2]⟩

set_option maxRecDepth 10000 in
set_option maxHeartbeats 2000000 in
theorem implTotal (lo mb : Nat) (es : List Ent) (w : World) (hm : MapIs w lo mb es) (ht : totE es ≤ 16777216) :
    Calls Try.prog 64 #[.map (some mb)] w (Nums w (totE es)) := by
  have HN := Lib.hid hm.nodup
  have HM := Lib.hid hm
  clear hm
  go_enter Try.func64, Try.ntmps64
  go_wp2_with (at_range; refine wpList_range_own _ rfl _ 78 rfl 9 22 Try.keyed Try.underlying78 _ mb es.length (mapD es) rfl HM.out.own ?_; intro w0 hrg0 hg0 hs0)
  go_frame
  go_loopw [3] (fun t wr => ∃ (left : Lit → Bool) (cnt q : Nat), wr.ranges Try.prog 9 rawR mb w.heap.size es.length (mapD es) left cnt ∧ t = .int .i64 (q : Int) ∧ Hid (q = metSum left es) ∧ Hid (Below w.heap.size w wr)) (fun _ wr => wr.rangeLeft mb w.heap.size)
  case atStart => exact ⟨_, _, 0, hrg0, rfl, Lib.hid (metSum_start es).symm, Lib.hid ((Below.refl _ _).grown hg0 (Nat.le_refl _) (by simp))⟩
  case round =>
    obtain ⟨left, cnt, q, hrg, rfl, hq, hbel⟩ := hrel
    go_wp2_with (at_next; refine wpList_next_ranges _ rfl _ rfl 9 Try.keyed rawR Value.string mkSl strKey rawR_inv mb w.heap.size es.length _ _ _ rfl hrg ?_ ?_)
    · intro hc0 hl0
      have HV : Hid ((q : Int) = totE es) := Lib.hid (by rw [hq.out, metSum_end left es hl0])
      clear hl0
      go_wp2
      go_ret
      exact ⟨ret_int HV.out, hbel.out⟩
    · intro x tA tn tc kl yd yp w2 cnt2 hkey hlk hv hat hrg2 hlt hg2 hs2 hen
      obtain rfl := strKey_nm hkey
      obtain ⟨e, hf, ht2⟩ := met_entry (t := (tA, tn, tc)) hat (rawR_held hv)
      simp only [Prod.mk.injEq] at ht2
      obtain ⟨rfl, rfl, rfl⟩ := ht2
      have hst := Lib.hid (metSum_step HN.out hf hlk)
      have hle : q + e.d.n ≤ 16777216 := by
        have h1 := metSum_le (fun z => left z && !z.sameKey (nmL x)) es
        have h2 := hst.out
        have h3 := hq.out
        omega
      have HR2 := Lib.hid hrg2
      have HR := Lib.hid hrg
      have HB2 := Lib.hid (hbel.out.grown hg2 hbel.out.size (fun j hj => by injection hj with hj; omega))
      simp only [mkSl] at hen ⊢
      clear hs2 hat hrg2 hrg hf hv hkey hg2
      go_wp2
      go_roundw
      case rel => exact ⟨_, cnt2, q + e.d.n, HR2.out, by go_num, Lib.hid (by rw [hst.out, hq.out]), HB2⟩
      case measure => rw [HR2.out.left_eq, HR.out.left_eq]; exact hlt
end Go.Proofs.Ytfcomnpoehpgiaa
