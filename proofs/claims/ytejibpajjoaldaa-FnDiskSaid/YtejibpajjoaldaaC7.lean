/- The contracts of the program's two small questions: limits, names. // A map from names to slices of bytes, read raw: the entries stand in the order of their names, as the model's lists do (plain lemmas; no condition). // A map from names to slices of bytes in memory: each slice reads; one that has spare room is of the call's own, and no other lies in its block. The contract of the program's function that adds the sizes up. // The contract of the program's function that asks whether an operation is applicable. // What stores into and removals from a map of slices leave. // Doing a renaming, a removal or nothing known: the contract of the program's function at kinds 3, 4 and others. // An entry of the map is appended to: what the other entries keep, and what storing the longer slice leaves. // Doing an append: the contract of the program's function at kind 2. // Doing an operation that is applicable: the contract of the program's function. // The contract of slices.Clip at bytes. -/
import Derived.Maps.OwnSet
import Derived.Maps.RangeWalk
import Derived.Sort.KeysCollected
import Derived.Test.YtejibpajjoaldaaC5
import Derived.Test.YtejibpajjoaldaaC6
namespace Go.Proofs.Ytejibpajjoaldaa
open Go.RowKit

def limI (room fuse : Int) (n m : Nat) : Bool := decide (0 ≤ room ∧ room ≤ 200000 ∧ -1 ≤ fuse ∧ fuse ≤ 2000 ∧ n ≤ 12 ∧ m ≤ 60)

set_option maxRecDepth 10000 in
set_option maxHeartbeats 4000000 in
theorem implLim (room fuse : Int) (A : Option Addr) (n c : Nat) (B : Option Addr) (m d : Nat) (w : World) (hn : n ≤ 1048576) (hm : m ≤ 1048576) :
    Calls Try.prog 75 #[.agg #[.int .i64 room, .int .i64 fuse, .slice A n c, .slice B m d]] w (Tells w (limI room fuse n m)) := by
  by_cases h1 : 0 ≤ room
  · by_cases h2 : room ≤ 200000
    · by_cases h3 : -1 ≤ fuse
      · by_cases h4 : fuse ≤ 2000
        · by_cases h5 : n ≤ 12
          · by_cases h6 : m ≤ 60
            · have hv : limI room fuse n m = true := by simp [limI, h1, h2, h3, h4, h5, h6]
              rw [hv]
              clear hv
              go_enter Try.func75, Try.ntmps75
              go_wp2
              go_ret
              exact ⟨ret_bool (by simp <;> omega), below_a1 _ _⟩
            · have hv : limI room fuse n m = false := by simp [limI, h6]
              rw [hv]
              clear hv
              go_enter Try.func75, Try.ntmps75
              go_wp2
              go_ret
              exact ⟨ret_bool (by simp <;> omega), below_a1 _ _⟩
          · have hv : limI room fuse n m = false := by simp [limI, h5]
            rw [hv]
            clear hv
            go_enter Try.func75, Try.ntmps75
            go_wp2
            go_ret
            exact ⟨ret_bool (by first | rfl | (simp <;> omega)), below_a1 _ _⟩
        · have hv : limI room fuse n m = false := by simp [limI, h4]
          rw [hv]
          clear hv
          go_enter Try.func75, Try.ntmps75
          go_wp2
          go_ret
          exact ⟨ret_bool (by first | rfl | (simp <;> omega)), below_a1 _ _⟩
      · have hv : limI room fuse n m = false := by simp [limI, h3]
        rw [hv]
        clear hv
        go_enter Try.func75, Try.ntmps75
        go_wp2
        go_ret
        exact ⟨ret_bool (by first | rfl | (simp <;> omega)), below_a1 _ _⟩
    · have hv : limI room fuse n m = false := by simp [limI, h2]
      rw [hv]
      clear hv
      go_enter Try.func75, Try.ntmps75
      go_wp2
      go_ret
      exact ⟨ret_bool (by first | rfl | (simp <;> omega)), below_a1 _ _⟩
  · have hv : limI room fuse n m = false := by simp [limI, h1]
    rw [hv]
    clear hv
    go_enter Try.func75, Try.ntmps75
    go_wp2
    go_ret
    exact ⟨ret_bool (by first | rfl | (simp <;> omega)), below_a1 _ _⟩

theorem implName_q (s : ByteArray) (b : Bool) (h : nameB s = b) (w : World) (hs : s.size ≤ 2097152) : Calls Try.prog 77 #[.string s] w fun e w' => e = .returned (.bool b) ∧ w' = w := by
  subst h
  exact (implName s w hs).mono fun _ _ ⟨h1, h2⟩ => ⟨h1, h2.symm⟩

set_option maxRecDepth 10000 in
set_option maxHeartbeats 4000000 in
theorem implNames (A : Option Addr) (n c : Nat) (es : List Ent) (w : World) (hf : SlF w A n es) (hn : n ≤ 1048576) (hs : ∀ e ∈ es, e.nm.size ≤ 1048576) :
    Calls Try.prog 76 #[.slice A n c] w (Tells w (namesFrom none (es.map Ent.file))) := by
  have HF := Lib.hid hf
  have HS := Lib.hid hs
  clear hf hs
  go_enter Try.func76, Try.ntmps76
  go_wp2
  go_loopw [7] (fun i wr => ∃ k : Nat, k ≤ n ∧ i = .int .i64 k ∧ Hid (namesFrom none (es.map Ent.file) = namesFrom (prevAt (es.map Ent.file) k) ((es.map Ent.file).drop k)) ∧ Hid (Below w.heap.size w wr)) (fun i _ => n - (intOf i).toNat)
  case atStart => exact ⟨0, Nat.zero_le _, rfl, Lib.hid rfl, Lib.hid (Below.refl _ _)⟩
  case round =>
    obtain ⟨k, hk, rfl, hnm, hbel⟩ := hrel
    by_cases hlt : k < n
    · obtain ⟨b, off, e, hA, hbw, he, hok, c0, c1⟩ := HF.out.at_ hlt
      subst hA
      have c0 := (hbel.out.cell (p := ⟨b, off + k * 2, none⟩) hbw).trans c0
      have c1 := (hbel.out.cell (p := ⟨b, off + k * 2 + 1, none⟩) hbw).trans c1
      have hes := HS.out e (List.mem_of_getElem? he.out)
      have hfe : (es.map Ent.file)[k]? = some e.file := by rw [List.getElem?_map, he.out]; rfl
      have hst := namesFrom_at (p := prevAt (es.map Ent.file) k) hfe
      have HPV : Hid (prevAt (es.map Ent.file) (k + 1) = some e.nm) := Lib.hid (by simp only [prevAt]; rw [hfe]; rfl)
      by_cases hgood : nameB e.nm = true
      · have CN := Lib.hid (fun W => implName_q e.nm true hgood W (by omega))
        by_cases hk0 : 0 < k
        · obtain ⟨p, hp⟩ : ∃ p, p = k - 1 := ⟨_, rfl⟩
          have hpn : p < n := by omega
          obtain ⟨b2, off2, e2, hA2, hbw2, he2, hok2, p0, p1⟩ := HF.out.at_ hpn
          obtain ⟨rfl, rfl⟩ : b = b2 ∧ off = off2 := by
            injection hA2 with h
            injection h with h1 h2
            exact ⟨h1, h2⟩
          have p0 := (hbel.out.cell (p := ⟨b, off + p * 2, none⟩) hbw).trans p0
          have hbr : b < wr.heap.size := Nat.lt_of_lt_of_le hbw hbel.out.size
          have p0 : (wr.alloc (.cells #[.string e.nm, .slice e.d.A e.d.n e.d.c] 87)).cell? ⟨b, off + p * 2, none⟩ = some (.string e2.nm) := (World.cell?_alloc_lt _ _ _ hbr).trans p0
          have hpe : (k : Int) - 1 = (p : Int) := by omega
          have hp0 : (0 : Int) ≤ (p : Int) := by omega
          have hpN : (p : Int) < (n : Int) := by omega
          have hk1 : (1 : Int) ≤ (k : Int) := by omega
          have hfp : (es.map Ent.file)[p]? = some e2.file := by rw [List.getElem?_map, he2.out]; rfl
          have hpv : prevAt (es.map Ent.file) k = some e2.nm := by
            rw [show k = p + 1 by omega]
            simp only [prevAt]
            rw [hfp]
            rfl
          have d0 : decide ((0 : Int) < (k : Int)) = true := by simp; omega
          have d0' : decide (0 < k) = true := by simp; omega
          by_cases hlts : ltB e2.nm e.nm = true
          · have hnew : Hid (namesFrom none (es.map Ent.file) = namesFrom (prevAt (es.map Ent.file) (k + 1)) ((es.map Ent.file).drop (k + 1))) := Lib.hid (by
              rw [hnm.out, hst, HPV.out, hpv]
              simp only [Ent.file, hgood, hlts, Bool.true_and])
            have hq : Op.bytesLess e2.nm.toList e.nm.toList = true := hlts
            have hw2 : IntKind.i64.wrap (p : Int) = (p : Int) := IntWalk.i64_in _ (by omega)
            have hw1 : IntKind.i64.wrap ((k : Int) - 1) = (p : Int) := by rw [hpe]; exact hw2
            have htn : ((p : Int)).toNat = p := by simp
            clear hst hfe hk0 hpv hfp hlts hp hA2 p1 hok2 he2
            go_wp2
            go_quiet ((go_at_call 77; exact Calls.quiet_of_same (CN.out _)))
            go_wp2
            go_roundw
            case rel => exact ⟨k + 1, by omega, by go_num, hnew, Lib.hid (below_drewN (hbel.out.alloc hbel.out.size _) _)⟩
            case measure => simp [intOf]; omega
          · have hltf : ltB e2.nm e.nm = false := by simpa using hlts
            have hans : Hid (namesFrom none (es.map Ent.file) = false) := Lib.hid (by
              rw [hnm.out, hst, hpv]
              simp only [Ent.file, hltf, Bool.false_and, Bool.and_false])
            have hq : Op.bytesLess e2.nm.toList e.nm.toList = false := hltf
            have hw2 : IntKind.i64.wrap (p : Int) = (p : Int) := IntWalk.i64_in _ (by omega)
            have hw1 : IntKind.i64.wrap ((k : Int) - 1) = (p : Int) := by rw [hpe]; exact hw2
            have htn : ((p : Int)).toNat = p := by simp
            clear hst hfe hk0 hpv hfp hlts hltf hp hA2 p1 hok2 he2
            go_wp2
            go_quiet ((go_at_call 77; exact Calls.quiet_of_same (CN.out _)))
            go_wp2
            go_ret
            exact ⟨ret_bool hans.out.symm, below_drewN (hbel.out.alloc hbel.out.size _) _⟩
        · have hk00 : k = 0 := by omega
          have hnew : Hid (namesFrom none (es.map Ent.file) = namesFrom (prevAt (es.map Ent.file) (k + 1)) ((es.map Ent.file).drop (k + 1))) := Lib.hid (by
            rw [hnm.out, hst, HPV.out]
            simp only [prevAt, hk00, Ent.file, hgood, Bool.true_and])
          have d0 : decide ((0 : Int) < (k : Int)) = false := by simp; omega
          have d0' : decide (0 < k) = false := by simp; omega
          clear hst hfe hk00 hk0
          go_wp2
          go_quiet ((go_at_call 77; exact Calls.quiet_of_same (CN.out _)))
          go_wp2
          go_roundw
          case rel => exact ⟨k + 1, by omega, by go_num, hnew, Lib.hid (below_drewN (hbel.out.alloc hbel.out.size _) _)⟩
          case measure => simp [intOf]; omega
      · have hbad : nameB e.nm = false := by simpa using hgood
        have CN := Lib.hid (fun W => implName_q e.nm false hbad W (by omega))
        have hans : Hid (namesFrom none (es.map Ent.file) = false) := Lib.hid (by
          rw [hnm.out, hst]
          simp only [Ent.file, hbad, Bool.false_and])
        clear hst hfe hgood hbad
        go_wp2
        go_quiet ((go_at_call 77; exact Calls.quiet_of_same (CN.out _)))
        go_wp2
        go_ret
        exact ⟨ret_bool hans.out.symm, below_drewN (hbel.out.alloc hbel.out.size _) _⟩
    · have hall : Hid (namesFrom none (es.map Ent.file) = true) := Lib.hid (by
        rw [hnm.out, List.drop_eq_nil_of_le (by rw [List.length_map, HF.out.len]; omega)]
        cases prevAt (es.map Ent.file) k <;> rfl)
      go_wp2
      go_ret
      exact ⟨ret_bool hall.out.symm, hbel.out⟩
end Go.Proofs.Ytejibpajjoaldaa
namespace Go.Proofs.Ytejibpajjoaldaa
open Go.RowKit Go.Maps

def rawR : Value → Option (DataW Value × List MemPlace)
  | .slice A n c => some (.held (.slice A n c), [])
  | _ => none
def nmL (s : ByteArray) : Lit := .string s.data.toList
def entD (e : Ent) : Lit × DataW Value := (nmL e.nm, .held (.slice e.d.A e.d.n e.d.c))
def mapD (es : List Ent) : DataW Value := .map (es.map entD)

theorem before_less : ∀ (a b : List UInt8), bytesBefore a b = Op.bytesLess a b
  | [], [] => rfl
  | [], _ :: _ => rfl
  | _ :: _, [] => rfl
  | a :: r, b :: s => by simp only [bytesBefore, Op.bytesLess, before_less r s]
theorem ltB_before (a b : ByteArray) : ltB a b = bytesBefore a.data.toList b.data.toList := by
  unfold ltB
  rw [ByteArray.toList_eq, ByteArray.toList_eq, before_less]
theorem data_inj {a b : ByteArray} (h : a.data.toList = b.data.toList) : a = b := ByteArray.ext (Array.ext' h)
theorem sameKey_nm (a b : ByteArray) : (nmL a).sameKey (nmL b) = decide (a = b) := by
  unfold nmL Lit.sameKey
  by_cases h : a = b
  · simp [h]
  · simp only [h, decide_false, beq_eq_false_iff_ne, ne_eq]
    exact fun e => h (data_inj e)
theorem gtN_before {a b : ByteArray} (h : a ≠ b) : gtN a b = (nmL b).before (nmL a) := by
  show gtN a b = bytesBefore b.data.toList a.data.toList
  unfold gtN
  have h2 : (a.toList == b.toList) = false := by
    simp only [beq_eq_false_iff_ne, ne_eq, ByteArray.toList_eq]
    exact fun e => h (data_inj e)
  rw [h2, Bool.or_false, ByteArray.toList_eq, ByteArray.toList_eq, ← before_less]
  have hne : a.data.toList ≠ b.data.toList := fun e => h (data_inj e)
  rcases WideAt.bytes_total _ _ hne with h1 | h1
  · have h3 : bytesBefore b.data.toList a.data.toList = false := by
      cases hb : bytesBefore b.data.toList a.data.toList with
      | false => rfl
      | true =>
        have := WideShapes.bytes_trans _ _ _ h1 hb
        rw [WideAt.bytes_irrefl] at this
        cases this
    rw [h1, h3]
    rfl
  · have h3 : bytesBefore a.data.toList b.data.toList = false := by
      cases hb : bytesBefore a.data.toList b.data.toList with
      | false => rfl
      | true =>
        have := WideShapes.bytes_trans _ _ _ h1 hb
        rw [WideAt.bytes_irrefl] at this
        cases this
    rw [h1, h3]
    rfl

theorem mapD_has (s : ByteArray) (es : List Ent) : Maps.has (mapD es) (nmL s) = hasK Ent.nm s es := by
  unfold Maps.has mapD hasK
  simp only [List.any_map]
  congr 1
  funext e
  exact sameKey_nm e.nm s
theorem mapD_size (es : List Ent) : Maps.size (mapD es) = es.length := by simp [Maps.size, mapD]
theorem mapD_at (s : ByteArray) (z : DataW Value) : ∀ es : List Ent, (mapD es).atKey (nmL s) z = ((findK Ent.nm s es).map fun e => DataW.held (.slice e.d.A e.d.n e.d.c)).getD z
  | [] => rfl
  | e :: r => by
    have ih := mapD_at s z r
    unfold mapD DataW.atKey findK at *
    simp only [List.map_cons, List.find?_cons]
    have hk : ((entD e).1).sameKey (nmL s) = decide (e.nm = s) := sameKey_nm e.nm s
    rw [hk]
    by_cases h : e.nm = s
    · simp [h, entD]
    · simp only [h, decide_false]
      exact ih
theorem mapD_less (s : ByteArray) (es : List Ent) : (es.map entD).filter (fun p => !p.1.sameKey (nmL s)) = (lessK Ent.nm s es).map entD := by
  unfold lessK
  rw [List.filter_map]
  congr 1
  apply List.filter_congr
  intro e _
  have hk : ((entD e).1).sameKey (nmL s) = decide (e.nm = s) := sameKey_nm e.nm s
  simp only [Function.comp, hk, ne_eq]
  by_cases h : e.nm = s <;> simp [h]
theorem mapD_del (s : ByteArray) (es : List Ent) : (mapD es).del (nmL s) = mapD (lessK Ent.nm s es) := by
  show DataW.map ((es.map entD).filter (fun p => !p.1.sameKey (nmL s))) = _
  rw [mapD_less]
  rfl
theorem ins_eq (x : Ent) : ∀ (l : List Ent), (∀ e ∈ l, e.nm ≠ x.nm) → DataW.insert (entD x) (l.map entD) = (insK Ent.nm x l).map entD
  | [], _ => rfl
  | e :: r, h => by
    have hg := gtN_before (h e (by simp))
    simp only [List.map_cons, DataW.insert, insK]
    rw [hg]
    have : (entD x).1.before (entD e).1 = (nmL x.nm).before (nmL e.nm) := rfl
    rw [this]
    split
    · simp
    · rw [List.map_cons, ins_eq x r (fun a ha => h a (by simp [ha]))]
theorem mapD_put (x : Ent) (es : List Ent) : (mapD es).put (nmL x.nm) (.held (.slice x.d.A x.d.n x.d.c)) = mapD (withK Ent.nm x es) := by
  show DataW.map (DataW.insert (entD x) ((es.map entD).filter (fun p => !p.1.sameKey (nmL x.nm)))) = _
  rw [mapD_less, ins_eq x (lessK Ent.nm x.nm es) (fun e he => (lessK_mem he).2)]
  rfl
end Go.Proofs.Ytejibpajjoaldaa
namespace Go.Proofs.Ytejibpajjoaldaa
open Go.RowKit Go.Maps

theorem Try.keyed : Keyed Try.prog 9 := string_keyed Try.underlying9

structure MapIs (w : World) (lo mb : Nat) (es : List Ent) : Prop where
  own : w.ownsMap Try.prog 9 rawR mb es.length (mapD es)
  base : lo ≤ mb
  ok : ∀ e ∈ es, e.d.Ok w
  room : ∀ e ∈ es, e.d.n < e.d.c → w.ownsRow lo 5 1 e.d.v e.d.n (vb e.d.xs)
  apart : es.Pairwise (fun a b => (a.d.n < a.d.c ∨ b.d.n < b.d.c) → a.d.c = 0 ∨ b.d.c = 0 ∨ Apart a.d b.d)

theorem tight {w : World} {P : Program} {k : TypeId} {R : Value → Option (DataW Value × List MemPlace)} {b n : Nat} {es : List Ent} (h : w.ownsMap P k R b n (mapD es)) : w.ownsMap P k R b es.length (mapD es) := by
  obtain ⟨a, clock, hb, F, hs, hD⟩ := h
  refine ⟨a, clock, hb, F, ?_, hD⟩
  have := congrArg Maps.size hD
  rw [mapD_size] at this
  simp only [Maps.size, length_sorted, List.length_map, Array.length_toList] at this
  omega

theorem MapIs.lt {w : World} {lo mb : Nat} {es : List Ent} (h : MapIs w lo mb es) : mb < w.heap.size := h.own.lt
theorem MapIs.below {w w' : World} {lo mb : Nat} {es : List Ent} (h : MapIs w lo mb es) (hb : Below w.heap.size w w') : MapIs w' lo mb es :=
  ⟨h.own.kept (grownBy_of_below hb none) (by simp), h.base, fun e he => (h.ok e he).below hb, fun e he hc => own_below (h.room e he hc) hb, h.apart⟩
theorem MapIs.drew {w : World} {lo mb : Nat} {es : List Ent} (h : MapIs w lo mb es) : MapIs w.drew lo mb es := h.below ((Below.refl _ _).drew)
theorem MapIs.nodup {w : World} {lo mb : Nat} {es : List Ent} (h : MapIs w lo mb es) : es.Pairwise (fun a b => a.nm ≠ b.nm) := by
  obtain ⟨l, hl, hp, _⟩ := h.own.entries Try.keyed
  have : es.map entD = l := by injection hl
  subst this
  rw [List.pairwise_map] at hp
  exact hp.imp (fun {a b} hab e => hab (by simp only [entD, e]))
theorem MapIs.tot {w : World} {lo mb : Nat} {es : List Ent} (h : MapIs w lo mb es) : totE es = totF (es.map Ent.file) := totE_file es h.ok

/-- What has been met of a range. -/
def metSum (left : Lit → Bool) (es : List Ent) : Nat := ((es.filter fun e => !left (nmL e.nm)).map fun e => e.d.n).sum
theorem metSum_start (es : List Ent) : metSum (Maps.has (mapD es)) es = 0 := by
  unfold metSum
  rw [List.filter_eq_nil_iff.2]
  · rfl
  · intro e he
    simp only [Bool.not_eq_true', Bool.not_eq_false]
    rw [mapD_has]
    unfold hasK
    rw [List.any_eq_true]
    exact ⟨e, he, by simp⟩
theorem metSum_end (left : Lit → Bool) (es : List Ent) (h : ∀ k, left k = false) : metSum left es = totE es := by
  unfold metSum totE
  rw [List.filter_eq_self.2]
  intro e _
  simp [h]
theorem metSum_cons (left : Lit → Bool) (e : Ent) (r : List Ent) : metSum left (e :: r) = (if left (nmL e.nm) then 0 else e.d.n) + metSum left r := by
  unfold metSum
  rw [List.filter_cons]
  cases left (nmL e.nm) <;> simp
theorem metSum_none {left left' : Lit → Bool} : ∀ (es : List Ent), (∀ e ∈ es, left' (nmL e.nm) = left (nmL e.nm)) → metSum left' es = metSum left es
  | [], _ => rfl
  | e :: r, h => by rw [metSum_cons, metSum_cons, h e (by simp), metSum_none r (fun x hx => h x (by simp [hx]))]
theorem metSum_step {left : Lit → Bool} {s : ByteArray} : ∀ {es : List Ent} {e : Ent}, es.Pairwise (fun a b => a.nm ≠ b.nm) → findK Ent.nm s es = some e → left (nmL s) = true → metSum (fun z => left z && !z.sameKey (nmL s)) es = metSum left es + e.d.n
  | [], e, _, h, _ => by simp [findK] at h
  | a :: r, e, hp, h, hl => by
    obtain ⟨h1, h2⟩ := List.pairwise_cons.1 hp
    rw [metSum_cons, metSum_cons]
    by_cases ha : a.nm = s
    · have he : a = e := by simpa [findK, ha] using h
      subst he
      have hr : metSum (fun z => left z && !z.sameKey (nmL s)) r = metSum left r := metSum_none r (fun x hx => by
        have : x.nm ≠ s := fun e => h1 x hx (by rw [ha, e])
        simp only [sameKey_nm, this, decide_false, Bool.not_false, Bool.and_true])
      rw [hr, ha, hl, sameKey_nm]
      simp
      omega
    · have h3 : findK Ent.nm s r = some e := by simpa [findK, ha] using h
      rw [metSum_step h2 h3 hl, sameKey_nm]
      simp only [ha, decide_false, Bool.not_false, Bool.and_true]
      omega
theorem metSum_le (left : Lit → Bool) : ∀ (es : List Ent), metSum left es ≤ totE es
  | [] => Nat.le_refl _
  | e :: r => by
    have ih := metSum_le left r
    rw [metSum_cons]
    have : totE (e :: r) = e.d.n + totE r := by simp [totE]
    split <;> omega

def mkSl (t : Option Addr × Nat × Nat) : Value := .slice t.1 t.2.1 t.2.2
theorem rawR_inv (v : Value) (y : DataW Value × List MemPlace) (h : rawR v = some y) : ∃ t, v = mkSl t := by
  unfold rawR at h
  cases v <;> simp at h
  exact ⟨(_, _, _), rfl⟩
theorem rawR_held {t : Option Addr × Nat × Nat} {d : DataW Value} {p : List MemPlace} (h : rawR (mkSl t) = some (d, p)) : d = .held (mkSl t) := by
  simp only [rawR, mkSl, Option.some.injEq, Prod.mk.injEq] at h
  rw [← h.1]
  rfl
theorem strKey (key : Value) (kl : Lit) (h : keyOf Try.prog 9 key = some kl) : ∃ x : ByteArray, key = .string x := by
  obtain ⟨x, hx, _⟩ := Maps.keyOf_str Try.underlying9 h
  exact ⟨⟨x.toArray⟩, hx⟩
theorem strKey_nm {x : ByteArray} {kl : Lit} (h : keyOf Try.prog 9 (.string x) = some kl) : kl = nmL x := by
  obtain ⟨y, hy, hk, _⟩ := Maps.keyOf_str Try.underlying9 h
  have : x = ⟨y.toArray⟩ := by injection hy
  rw [hk, this]
  simp [nmL]
/-- The entry that a step of a range hands out. -/
theorem met_entry {es : List Ent} {x : ByteArray} {t : Option Addr × Nat × Nat} {d : DataW Value} (hat : ∀ zd, (mapD es).atKey (nmL x) zd = d) (hd : d = .held (mkSl t)) : ∃ e, findK Ent.nm x es = some e ∧ t = (e.d.A, e.d.n, e.d.c) := by
  have h1 := hat .nil
  rw [mapD_at] at h1
  cases hf : findK Ent.nm x es with
  | none => rw [hf, hd] at h1; simp at h1
  | some e =>
    rw [hf, hd] at h1
    simp only [Option.map_some, Option.getD_some, DataW.held.injEq, mkSl, Value.slice.injEq] at h1
    exact ⟨e, rfl, by rw [h1.1, h1.2.1, h1.2.2]⟩

set_option maxRecDepth 10000 in
set_option maxHeartbeats 2000000 in
theorem implTotal (lo mb : Nat) (es : List Ent) (w : World) (hm : MapIs w lo mb es) (ht : totE es ≤ 16777216) :
    Calls Try.prog 47 #[.map (some mb)] w (Nums w (totE es)) := by
  have HN := Lib.hid hm.nodup
  have HM := Lib.hid hm
  clear hm
  go_enter Try.func47, Try.ntmps47
  go_wp2_with (at_range; refine wpList_range_own _ rfl _ 71 rfl 9 22 Try.keyed Try.underlying71 _ mb es.length (mapD es) rfl HM.out.own ?_; intro w0 hrg0 hg0 hs0)
  go_frame
  go_loopw [3] (fun t wr => ∃ (left : Lit → Bool) (cnt q : Nat), wr.ranges Try.prog 9 rawR mb w.heap.size es.length (mapD es) left cnt ∧ t = .int .i64 (q : Int) ∧ Hid (q = metSum left es) ∧ Hid (Below w.heap.size w wr)) (fun _ wr => wr.rangeLeft mb w.heap.size)
  case atStart => exact ⟨_, _, 0, hrg0, rfl, Lib.hid (metSum_start es).symm, Lib.hid ((Below.refl _ _).grown hg0 (Nat.le_refl _) (by simp))⟩
  case round =>
    obtain ⟨left, cnt, q, hrg, rfl, hq, hbel⟩ := hrel
    go_wp2_with (at_next; refine wpList_next_ranges _ rfl _ rfl 9 Try.keyed rawR Value.string mkSl strKey rawR_inv mb w.heap.size es.length _ _ _ rfl hrg ?_ ?_)
    · intro hc0 hl0
      have HV : Hid ((q : Int) = totE es) := Lib.hid (by rw [hq.out, metSum_end left es hl0])
      clear hl0
      go_wp2
      go_ret
      exact ⟨ret_int HV.out, hbel.out⟩
    · intro x tA tn tc kl yd yp w2 cnt2 hkey hlk hv hat hrg2 hlt hg2 hs2 hen
      obtain rfl := strKey_nm hkey
      obtain ⟨e, hf, ht2⟩ := met_entry (t := (tA, tn, tc)) hat (rawR_held hv)
      simp only [Prod.mk.injEq] at ht2
      obtain ⟨rfl, rfl, rfl⟩ := ht2
      have hst := Lib.hid (metSum_step HN.out hf hlk)
      have hle : q + e.d.n ≤ 16777216 := by
        have h1 := metSum_le (fun z => left z && !z.sameKey (nmL x)) es
        have h2 := hst.out
        have h3 := hq.out
        omega
      have HR2 := Lib.hid hrg2
      have HR := Lib.hid hrg
      have HB2 := Lib.hid (hbel.out.grown hg2 hbel.out.size (fun j hj => by injection hj with hj; omega))
      simp only [mkSl] at hen ⊢
      clear hs2 hat hrg2 hrg hf hv hkey hg2
      go_wp2
      go_roundw
      case rel => exact ⟨_, cnt2, q + e.d.n, HR2.out, by go_num, Lib.hid (by rw [hst.out, hq.out]), HB2⟩
      case measure => rw [HR2.out.left_eq, HR.out.left_eq]; exact hlt
end Go.Proofs.Ytejibpajjoaldaa
namespace Go.Proofs.Ytejibpajjoaldaa
open Go.RowKit Go.Maps

theorem Try.zeroS (w : World) : (zeroValue 22).run Try.prog w = .ok (.slice none 0 0) w := by kernel_rfl
theorem rawR_zero : rawR (.slice none 0 0) = some (.held (.slice none 0 0), []) := rfl
theorem keyNm {s : ByteArray} (h : s.size ≤ maxLen) : keyOf Try.prog 9 (.string s) = some (nmL s) := Go.WideMaps.keyOf_string_mk Try.underlying9 h

set_option maxRecDepth 10000 in
set_option maxHeartbeats 2000000 in
theorem implApp (lo mb : Nat) (es : List Ent) (o : OpE) (w : World) (hm : MapIs w lo mb es) (hl : es.length ≤ 1048576) (hs : o.nm.size ≤ 1048576) :
    Calls Try.prog 45 #[.map (some mb), .agg #[.int .i64 o.kind, .string o.nm, .string o.to, .slice o.d.A o.d.n o.d.c]] w (Tells w (fitsF (es.map Ent.file) o.op)) := by
  have hkey := Lib.hid (keyNm (s := o.nm) (by unfold maxLen; omega))
  have HM := Lib.hid (fun b => (hm.below (below_a1 w b)).own)
  have HH := Lib.hid (mapD_has o.nm es)
  have hhas := hasF_ents o.nm es
  obtain ⟨kind, nm, to, d⟩ := o
  simp only [OpE.op] at *
  by_cases h1 : kind = 1
  · subst h1
    have HV : Hid (fitsF (es.map Ent.file) (1, nm, to, d.xs) = (hasK Ent.nm nm es || decide (es.length < 12))) := Lib.hid (by simp [fitsF, hhas])
    have hlen : ∀ b : Obj, (Builtin.len_ #[71] 3 #[.map (some mb)]).run Try.prog (w.alloc b) = .ok (.int .i64 (es.length : Int)) (w.alloc b) := fun b => by
      have := (HM.out b).len Try.underlying71 3
      rw [mapD_size] at this
      exact this
    cases hb : hasK Ent.nm nm es with
    | true =>
      rw [hb] at HH HV
      clear hm hhas hb
      go_enter Try.func45, Try.ntmps45
      go_wp2_with (at_lookup; refine wpList_lookup_own_ok _ rfl _ _ 71 rfl 9 22 Try.keyed Try.underlying71 _ (Try.zeroS _) _ [] rawR_zero mb es.length (mapD es) rfl (HM.out _) _ _ rfl hkey.out ?_; intro v ps hv; rw [HH.out])
      go_ret
      exact ⟨ret_bool (by rw [HV.out]; simp), below_a1 _ _⟩
    | false =>
      rw [hb] at HH HV
      clear hm hhas hb
      go_enter Try.func45, Try.ntmps45
      go_wp2_with (at_lookup; refine wpList_lookup_own_ok _ rfl _ _ 71 rfl 9 22 Try.keyed Try.underlying71 _ (Try.zeroS _) _ [] rawR_zero mb es.length (mapD es) rfl (HM.out _) _ _ rfl hkey.out ?_; intro v ps hv; rw [HH.out])
      go_ret
      exact ⟨ret_bool (by rw [HV.out]; simp <;> omega), below_a1 _ _⟩
  · have e1 : (kind == 1) = false := by simpa using h1
    by_cases h3 : kind = 3
    · subst h3
      have HV : Hid (fitsF (es.map Ent.file) (3, nm, to, d.xs) = (hasK Ent.nm nm es && decide (to ≠ nm))) := Lib.hid (by simp [fitsF, hhas])
      cases hb : hasK Ent.nm nm es with
      | true =>
        rw [hb] at HH HV
        by_cases ht : to = nm
        · have hq := str_eq ht
          have HT := Lib.hid ht
          clear hm hhas hb ht e1 h1
          go_enter Try.func45, Try.ntmps45
          go_wp2_with (at_lookup; refine wpList_lookup_own_ok _ rfl _ _ 71 rfl 9 22 Try.keyed Try.underlying71 _ (Try.zeroS _) _ [] rawR_zero mb es.length (mapD es) rfl (HM.out _) _ _ rfl hkey.out ?_; intro v ps hv; rw [HH.out])
          go_ret
          exact ⟨ret_bool (by rw [HV.out]; simp [HT.out]), below_a1 _ _⟩
        · have hq := str_ne ht
          have HT := Lib.hid ht
          clear hm hhas hb ht e1 h1
          go_enter Try.func45, Try.ntmps45
          go_wp2_with (at_lookup; refine wpList_lookup_own_ok _ rfl _ _ 71 rfl 9 22 Try.keyed Try.underlying71 _ (Try.zeroS _) _ [] rawR_zero mb es.length (mapD es) rfl (HM.out _) _ _ rfl hkey.out ?_; intro v ps hv; rw [HH.out])
          go_ret
          exact ⟨ret_bool (by rw [HV.out]; simp [HT.out]), below_a1 _ _⟩
      | false =>
        rw [hb] at HH HV
        clear hm hhas hb e1 h1
        go_enter Try.func45, Try.ntmps45
        go_wp2_with (at_lookup; refine wpList_lookup_own_ok _ rfl _ _ 71 rfl 9 22 Try.keyed Try.underlying71 _ (Try.zeroS _) _ [] rawR_zero mb es.length (mapD es) rfl (HM.out _) _ _ rfl hkey.out ?_; intro v ps hv; rw [HH.out])
        go_ret
        exact ⟨ret_bool (by rw [HV.out]; simp), below_a1 _ _⟩
    · have e3 : (kind == 3) = false := by simpa using h3
      have HV : Hid (fitsF (es.map Ent.file) (kind, nm, to, d.xs) = hasK Ent.nm nm es) := Lib.hid (by simp only [fitsF, h1, if_false, h3, hhas])
      generalize hasK Ent.nm nm es = b at HH HV
      clear hm hhas h1 h3
      go_enter Try.func45, Try.ntmps45
      go_wp2_with (at_lookup; refine wpList_lookup_own_ok _ rfl _ _ 71 rfl 9 22 Try.keyed Try.underlying71 _ (Try.zeroS _) _ [] rawR_zero mb es.length (mapD es) rfl (HM.out _) _ _ rfl hkey.out ?_; intro v ps hv; rw [HH.out])
      go_ret
      exact ⟨ret_bool (by rw [HV.out]), below_a1 _ _⟩
end Go.Proofs.Ytejibpajjoaldaa
namespace Go.Proofs.Ytejibpajjoaldaa
open Go.RowKit Go.Maps

theorem insK_perm {α : Type} {key : α → ByteArray} (x : α) : ∀ l : List α, (insK key x l).Perm (x :: l)
  | [] => List.Perm.refl _
  | e :: r => by
    unfold insK
    split
    · exact List.Perm.refl _
    · exact ((insK_perm x r).cons e).trans (List.Perm.swap x e r)
def Gap (a b : Ent) : Prop := (a.d.n < a.d.c ∨ b.d.n < b.d.c) → a.d.c = 0 ∨ b.d.c = 0 ∨ Apart a.d b.d
theorem Apart.symm {a b : Dat} (h : Apart a b) : Apart b a := by
  unfold Apart at *
  rcases h with h | h
  · rw [h]
    cases b.v.ownBlock <;> simp
  · exact .inr (fun e => h e.symm)
theorem Gap.symm {a b : Ent} (h : Gap a b) : Gap b a := fun hh => by
  rcases h hh.symm with h | h | h
  · exact .inr (.inl h)
  · exact .inl h
  · exact .inr (.inr h.symm)

section
variable {w w1 : World} {lo mb : Nat} {es : List Ent}
theorem rd_map {A : Option Addr} {n : Nat} {xs : List Nat} (h : Rd w A n xs) (hg : w.grownBy w1 (some mb)) {a : Array MapEntry} {c : Nat} (hb : w.heap[mb]? = some (.map a c)) : Rd w1 A n xs :=
  ⟨h.len, h.small, fun hn => by
    obtain ⟨b, off, e, hlt, hc⟩ := h.lies hn
    have hl : 0 < xs.length := by have := h.len; omega
    have h0 := hc 0 _ (List.getElem?_eq_getElem hl)
    have hne : b ≠ mb := fun e2 => by
      subst e2
      simp [World.cell?, hb] at h0
    have := hg.size
    exact ⟨b, off, e, by omega, fun j u hu => (World.cell?_of_block (a := ⟨b, off + j, none⟩) (hg.block b hlt (fun e3 => hne (by injection e3)))).trans (hc j u hu)⟩⟩
theorem own_map {base e size n : Nat} {v : Value} {xs : List Value} (h : w.ownsRow base e size v n xs) (hg : w.grownBy w1 (some mb)) {a : Array MapEntry} {c : Nat} (hb : w.heap[mb]? = some (.map a c)) : w1.ownsRow base e size v n xs := by
  refine h.kept hg ?_
  rcases h.2 with ⟨rfl, _⟩ | ⟨g, cap, cur, rfl, _, hh, _⟩
  · exact .inl rfl
  · refine .inr (fun e2 => ?_)
    have : g = mb := by simpa [Value.ownBlock] using e2
    subst this
    rw [hb] at hh
    cases hh

theorem MapIs.stored (h : MapIs w lo mb es) (hg : w.grownBy w1 (some mb)) {x : Ent} {k : Nat} (ho : w1.ownsMap Try.prog 9 rawR mb k ((mapD es).put (nmL x.nm) (.held (.slice x.d.A x.d.n x.d.c)))) (hx : x.d.Ok w) (hr : x.d.n < x.d.c → w.ownsRow lo 5 1 x.d.v x.d.n (vb x.d.xs)) (ha : ∀ e ∈ lessK Ent.nm x.nm es, Gap x e) : MapIs w1 lo mb (withK Ent.nm x es) := by
  rw [mapD_put] at ho
  obtain ⟨a, c, hb, _⟩ := h.own
  have hin : ∀ e ∈ withK Ent.nm x es, e = x ∨ e ∈ es := fun e he => by
    rcases insK_mem.1 he with rfl | he
    · exact .inl rfl
    · exact .inr (lessK_mem he).1
  refine ⟨tight ho, h.base, fun e he => ?_, fun e he hc => ?_, ?_⟩
  · rcases hin e he with rfl | he
    · exact ⟨rd_map hx.rd hg hb, hx.cap⟩
    · exact ⟨rd_map (h.ok e he).rd hg hb, (h.ok e he).cap⟩
  · rcases hin e he with rfl | he
    · exact own_map (hr hc) hg hb
    · exact own_map (h.room e he hc) hg hb
  · refine ((insK_perm x (lessK Ent.nm x.nm es)).pairwise_iff (fun {a b} (hh : Gap a b) => hh.symm)).2 (List.pairwise_cons.2 ⟨ha, h.apart.filter _⟩)
theorem MapIs.dropped (h : MapIs w lo mb es) (hg : w.grownBy w1 (some mb)) {s : ByteArray} {k : Nat} (ho : w1.ownsMap Try.prog 9 rawR mb k ((mapD es).del (nmL s))) : MapIs w1 lo mb (lessK Ent.nm s es) := by
  rw [mapD_del] at ho
  obtain ⟨a, c, hb, _⟩ := h.own
  refine ⟨tight ho, h.base, fun e he => ⟨rd_map (h.ok e (lessK_mem he).1).rd hg hb, (h.ok e (lessK_mem he).1).cap⟩, fun e he hc => own_map (h.room e (lessK_mem he).1 hc) hg hb, h.apart.filter _⟩
end

/-- What doing an operation leaves. -/
def Applied (w : World) (lo mb : Nat) (fs : List FileD) (e : Ending) (w' : World) : Prop :=
  ∃ es, e = .returned (.tuple #[]) ∧ es.map Ent.file = fs ∧ MapIs w' lo mb es ∧ Below lo w w'

set_option maxRecDepth 10000 in
set_option maxHeartbeats 2000000 in
theorem implApply_1 (lo mb : Nat) (es : List Ent) (nm to : ByteArray) (d : Dat) (w : World) (hm : MapIs w lo mb es) (hl : es.length ≤ 1048576) (hs : nm.size ≤ 1048576) :
    Calls Try.prog 55 #[.map (some mb), .agg #[.int .i64 1, .string nm, .string to, .slice d.A d.n d.c]] w (Applied w lo mb (makeF (es.map Ent.file) (1, nm, to, d.xs))) := by
  have hkey := Lib.hid (keyNm (s := nm) (by unfold maxLen; omega))
  have HM := Lib.hid hm
  have hlo : lo ≤ w.heap.size := by have := hm.base; have := hm.lt; omega
  have HV : Hid (makeF (es.map Ent.file) (1, nm, to, d.xs) = (withK Ent.nm ⟨nm, ⟨none, 0, 0, []⟩⟩ es).map Ent.file) := Lib.hid (by rw [withK_map (f := Ent.file) (key := Ent.nm) (key' := Prod.fst) (fun _ => rfl)]; rfl)
  clear hm
  go_enter Try.func55, Try.ntmps55
  go_wp2_with (at_mapUpdate; refine wpList_mapUpdate_own _ rfl _ _ _ 71 rfl 9 22 Try.keyed Try.underlying71 rawR mb es.length (mapD es) rfl (HM.out.below (below_a1 _ _)).own (by unfold maxLen; omega) _ _ _ rfl rfl hkey.out _ [] rawR_zero ?_; intro w1 ho1 hg1)
  go_end0
  refine ⟨_, rfl, HV.out.symm, (HM.out.below (below_a1 _ _)).stored (x := ⟨nm, ⟨none, 0, 0, []⟩⟩) hg1 ho1 ⟨Rd.nil, Nat.le_refl _⟩ (fun h => absurd h (by simp)) (fun e _ _ => .inl rfl), ?_⟩
  exact (((Below.refl lo w).alloc hlo _).grown hg1 (by simp; omega) (fun k hk => by injection hk with hk; have := HM.out.base; omega))
end Go.Proofs.Ytejibpajjoaldaa
namespace Go.Proofs.Ytejibpajjoaldaa
open Go.RowKit Go.Maps

theorem insK_front {α : Type} {key : α → ByteArray} (x : α) : ∀ l : List α, (∀ e ∈ l, gtN (key e) (key x) = true) → insK key x l = x :: l
  | [], _ => rfl
  | e :: r, h => by
    unfold insK
    rw [if_pos (h e (by simp))]
def upE (es : List Ent) : Prop := es.Pairwise fun a b => (nmL a.nm).before (nmL b.nm) = true
theorem nm_irrefl (a : ByteArray) : (nmL a).before (nmL a) = false := WideAt.bytes_irrefl _
theorem nm_trans {a b c : ByteArray} (h : (nmL a).before (nmL b) = true) (h2 : (nmL b).before (nmL c) = true) : (nmL a).before (nmL c) = true := WideShapes.bytes_trans _ _ _ h h2
theorem gt_of_before {a b : ByteArray} (h : (nmL b).before (nmL a) = true) : gtN a b = true := by
  rw [gtN_before (fun e => by rw [e, nm_irrefl] at h; cases h)]
  exact h
theorem less_ins {s : ByteArray} {x : Ent} (hx : x.nm ≠ s) : ∀ {l : List Ent}, upE l → (∀ e ∈ l, e.nm ≠ x.nm) → lessK Ent.nm s (insK Ent.nm x l) = insK Ent.nm x (lessK Ent.nm s l)
  | [], _, _ => by simp [insK, lessK, hx]
  | e :: r, hu, hne => by
    obtain ⟨h1, h2⟩ := List.pairwise_cons.1 hu
    have hex := hne e (by simp)
    by_cases hg : gtN e.nm x.nm = true
    · have hb : (nmL x.nm).before (nmL e.nm) = true := by rw [gtN_before hex] at hg; exact hg
      rw [insK_front x (lessK Ent.nm s (e :: r)) (fun f hf => ?_)]
      · unfold insK
        rw [if_pos hg]
        unfold lessK
        rw [List.filter_cons_of_pos (by simpa using hx)]
      · rcases List.mem_cons.1 (lessK_mem hf).1 with rfl | hr
        · exact hg
        · exact gt_of_before (nm_trans hb (h1 f hr))
    · have ih := less_ins (s := s) hx h2 (fun f hf => hne f (by simp [hf]))
      have e1 : insK Ent.nm x (e :: r) = e :: insK Ent.nm x r := by
        conv => lhs; unfold insK
        rw [if_neg hg]
      rw [e1]
      by_cases hs : e.nm = s
      · have e2 : ∀ l : List Ent, lessK Ent.nm s (e :: l) = lessK Ent.nm s l := fun l => by
          unfold lessK
          rw [List.filter_cons_of_neg (by simpa using hs)]
        rw [e2, e2, ih]
      · have e2 : ∀ l : List Ent, lessK Ent.nm s (e :: l) = e :: lessK Ent.nm s l := fun l => by
          unfold lessK
          rw [List.filter_cons_of_pos (by simpa using hs)]
        rw [e2, e2, ih]
        conv => rhs; unfold insK
        rw [if_neg hg]
theorem less_comm {α : Type} {key : α → ByteArray} (a b : ByteArray) (l : List α) : lessK key a (lessK key b l) = lessK key b (lessK key a l) := by
  unfold lessK
  rw [List.filter_filter, List.filter_filter]
  apply List.filter_congr
  intro x _
  rw [Bool.and_comm]
theorem upE.less {es : List Ent} (h : upE es) (s : ByteArray) : upE (lessK Ent.nm s es) := h.filter _
theorem less_with {s : ByteArray} {x : Ent} (hx : x.nm ≠ s) {l : List Ent} (hu : upE l) : lessK Ent.nm s (withK Ent.nm x l) = withK Ent.nm x (lessK Ent.nm s l) := by
  unfold withK
  rw [less_ins hx (hu.less _) (fun e he => (lessK_mem he).2), less_comm]
theorem MapIs.up {w : World} {lo mb : Nat} {es : List Ent} (h : MapIs w lo mb es) : upE es := by
  obtain ⟨a, clock, hb, F, hs, hD⟩ := h.own
  have hr := WideShapes.rising_pairwise _ (fit_rising Try.keyed F)
  have he : es.map entD = (a.toList.map (WideElems.rg Try.prog 9 rawR)).foldr DataW.insert [] := by injection hD
  rw [← he, List.pairwise_map] at hr
  exact hr

theorem look_raw {P : Program} {w : World} {k e t : TypeId} {b n : Nat} {D : DataW Value} (hown : w.ownsMap P k rawR b n D) (K : Keyed P k) (ht : P.underlying t = some (.map k e)) (hz : (zeroValue e).run P w = .ok (.slice none 0 0) w) {key : Value} {kl : Lit} (hkey : keyOf P k key = some kl) {A : Option Addr} {m c : Nat} (hat : ∀ z, D.atKey kl z = .held (.slice A m c)) :
    (Instr.lookup t (.map (some b)) key false).run P w = .ok (.slice A m c) w := by
  obtain ⟨v, ps, hrun, hv⟩ := hown.lookup K ht hz rawR_zero hkey
  obtain ⟨t2, rfl⟩ := rawR_inv v _ hv
  have h2 := rawR_held hv
  rw [hat] at h2
  rw [hrun]
  have : mkSl t2 = .slice A m c := by injection h2 with h2; exact h2.symm
  rw [this]
theorem wpList_lookup_raw {P : Program} (w : World) {ops : Array Oper} {rest : List Oper} {o : Oper} {a : Act} {Q : Exit → Act → World → Prop}
    (hg : o.guard = none) (m x : Operand) (t : TypeId) (hop : o.op = Op.lookup t m x false) (k e : TypeId) (K : Keyed P k) (ht : P.underlying t = some (.map k e)) (hz : (zeroValue e).run P w = .ok (.slice none 0 0) w) (b n : Nat) (D : DataW Value)
    (hm : a.eval m = .map (some b)) (hown : w.ownsMap P k rawR b n D) (key : Value) (kl : Lit) (hx : a.eval x = key) (hkey : keyOf P k key = some kl) (A : Option Addr) (n2 c : Nat) (hat : ∀ z, D.atKey kl z = .held (.slice A n2 c))
    (hK : wpList P ops Q rest (a.put o.dst (.slice A n2 c)) w) : wpList P ops Q (o :: rest) a w := by
  refine wpList_plain hg fun K' hK' => ?_
  have hrun := look_raw hown K ht hz hkey hat
  unfold Oper.wp
  simp [execOp, hop, hm, hx, hrun, Result.andThen]
  exact hK' _ _ hK
theorem mapD_find {es : List Ent} {s : ByteArray} {e : Ent} (h : findK Ent.nm s es = some e) (z : DataW Value) : (mapD es).atKey (nmL s) z = .held (.slice e.d.A e.d.n e.d.c) := by
  rw [mapD_at, h]
  rfl
theorem findK_mem {es : List Ent} {s : ByteArray} {e : Ent} (h : findK Ent.nm s es = some e) : e ∈ es ∧ e.nm = s := by
  refine ⟨List.mem_of_find?_eq_some h, ?_⟩
  have := List.find?_some h
  simpa using this
theorem dataF_find {es : List Ent} {s : ByteArray} {e : Ent} (h : findK Ent.nm s es = some e) : dataF s (es.map Ent.file) = e.d.xs := by
  unfold dataF
  rw [findK_map (f := Ent.file) (key := Ent.nm) (key' := Prod.fst) (fun _ => rfl), h]
  rfl
theorem pair_of {α : Type} {R : α → α → Prop} (hs : ∀ {a b}, R a b → R b a) : ∀ {l : List α}, l.Pairwise R → ∀ {a b : α}, a ∈ l → b ∈ l → a ≠ b → R a b
  | [], _, a, _, ha, _, _ => by simp at ha
  | x :: r, h, a, b, ha, hb, hne => by
    obtain ⟨h1, h2⟩ := List.pairwise_cons.1 h
    rcases List.mem_cons.1 ha with rfl | ha
    · rcases List.mem_cons.1 hb with rfl | hb
      · exact absurd rfl hne
      · exact h1 _ hb
    · rcases List.mem_cons.1 hb with hbx | hb
      · rw [hbx]
        exact hs (h1 _ ha)
      · exact pair_of hs h2 ha hb hne
theorem MapIs.gap {w : World} {lo mb : Nat} {es : List Ent} (h : MapIs w lo mb es) {a b : Ent} (ha : a ∈ es) (hb : b ∈ es) (hne : a.nm ≠ b.nm) : Gap a b :=
  pair_of (R := Gap) (fun hh => hh.symm) h.apart ha hb (fun e => hne (by rw [e]))
theorem MapIs.moved {w w2 : World} {lo mb : Nat} {es : List Ent} {e : Ent} {nm to : ByteArray} {k : Nat} (h : MapIs w lo mb es) (hg : w.grownBy w2 (some mb)) (hf : findK Ent.nm nm es = some e) (ht : to ≠ nm)
    (ho : w2.ownsMap Try.prog 9 rawR mb k (((mapD es).put (nmL to) (.held (.slice e.d.A e.d.n e.d.c))).del (nmL nm))) : MapIs w2 lo mb (withK Ent.nm ⟨to, e.d⟩ (lessK Ent.nm nm es)) := by
  have hp := mapD_put ⟨to, e.d⟩ es
  simp only at hp
  rw [hp, mapD_del, less_with (x := ⟨to, e.d⟩) ht h.up] at ho
  obtain ⟨a, c, hb, _⟩ := h.own
  obtain ⟨he, hen⟩ := findK_mem hf
  have hin : ∀ f ∈ withK Ent.nm ⟨to, e.d⟩ (lessK Ent.nm nm es), f = ⟨to, e.d⟩ ∨ f ∈ es := fun f hf => by
    rcases insK_mem.1 hf with rfl | hf
    · exact .inl rfl
    · exact .inr (lessK_mem (lessK_mem hf).1).1
  refine ⟨tight ho, h.base, fun f hf => ?_, fun f hf hc => ?_, ?_⟩
  · rcases hin f hf with rfl | hf
    · exact ⟨rd_map (h.ok e he).rd hg hb, (h.ok e he).cap⟩
    · exact ⟨rd_map (h.ok f hf).rd hg hb, (h.ok f hf).cap⟩
  · rcases hin f hf with rfl | hf
    · exact own_map (h.room e he hc) hg hb
    · exact own_map (h.room f hf hc) hg hb
  · refine ((insK_perm _ _).pairwise_iff (fun {a b} (hh : Gap a b) => hh.symm)).2 (List.pairwise_cons.2 ⟨fun f hf => ?_, (h.apart.filter _).filter _⟩)
    have h1 := lessK_mem (lessK_mem hf).1
    have hgap : Gap e f := h.gap he h1.1 (by rw [hen]; exact fun e => h1.2 e.symm)
    exact fun hh => hgap hh

set_option maxRecDepth 10000 in
set_option maxHeartbeats 2000000 in
theorem implApply_3 (lo mb : Nat) (es : List Ent) (nm to : ByteArray) (d : Dat) (e : Ent) (w : World) (hm : MapIs w lo mb es) (hl : es.length ≤ 1048576) (hs : nm.size ≤ 1048576) (hs2 : to.size ≤ 1048576) (hf : findK Ent.nm nm es = some e) (ht : to ≠ nm) :
    Calls Try.prog 55 #[.map (some mb), .agg #[.int .i64 3, .string nm, .string to, .slice d.A d.n d.c]] w (Applied w lo mb (makeF (es.map Ent.file) (3, nm, to, d.xs))) := by
  have hkey := Lib.hid (keyNm (s := nm) (by unfold maxLen; omega))
  have hkey2 := Lib.hid (keyNm (s := to) (by unfold maxLen; omega))
  have HM := Lib.hid hm
  have HF := Lib.hid hf
  have HT := Lib.hid ht
  have hat := Lib.hid (mapD_find hf)
  have hlo : lo ≤ w.heap.size := by have := hm.base; have := hm.lt; omega
  have hmb : mb < w.heap.size := hm.lt
  have HV : Hid (makeF (es.map Ent.file) (3, nm, to, d.xs) = (withK Ent.nm ⟨to, e.d⟩ (lessK Ent.nm nm es)).map Ent.file) := Lib.hid (by
    rw [withK_map (f := Ent.file) (key := Ent.nm) (key' := Prod.fst) (fun _ => rfl), lessK_map (f := Ent.file) (key := Ent.nm) (key' := Prod.fst) (fun _ => rfl)]
    show withF (to, dataF nm (es.map Ent.file)) _ = _
    rw [dataF_find hf]
    rfl)
  clear hm hf ht
  go_enter Try.func55, Try.ntmps55
  go_wp2_with (first
    | (at_lookup; refine wpList_lookup_raw _ rfl _ _ 71 rfl 9 22 Try.keyed Try.underlying71 (Try.zeroS _) mb es.length (mapD es) rfl (HM.out.below (below_a1 _ _)).own _ _ rfl hkey.out _ _ _ hat.out ?_)
    | (at_mapUpdate; refine wpList_mapUpdate_own _ rfl _ _ _ 71 rfl 9 22 Try.keyed Try.underlying71 rawR mb es.length (mapD es) rfl (HM.out.below (below_a1 _ _)).own (by unfold maxLen; omega) _ _ _ rfl rfl hkey2.out _ [] rfl ?_; intro w1 ho1 hg1; have hc1 : w1.cell? ⟨w.heap.size, 1, none⟩ = some (.string nm) := (World.cell?_of_block (a := ⟨w.heap.size, 1, none⟩) (hg1.block w.heap.size (by simp) (fun e => by injection e with e; omega))).trans (by simp))
    | (at_delete; refine wpList_delete_own _ rfl _ _ 71 9 rfl 22 Try.keyed Try.underlying71 rawR mb _ _ rfl ho1 _ _ rfl hkey.out ?_; intro w2 ho2 hg2))
  go_end0
  have hgg := hg1.trans hg2.grown
  refine ⟨_, rfl, HV.out.symm, (HM.out.below (below_a1 _ _)).moved hgg HF.out HT.out ho2, ?_⟩
  exact (((Below.refl lo w).alloc hlo _).grown hgg (by simp; omega) (fun k hk => by injection hk with hk; have := HM.out.base; omega))

set_option maxRecDepth 10000 in
set_option maxHeartbeats 2000000 in
theorem implApply_4 (lo mb : Nat) (es : List Ent) (nm to : ByteArray) (d : Dat) (w : World) (hm : MapIs w lo mb es) (hs : nm.size ≤ 1048576) :
    Calls Try.prog 55 #[.map (some mb), .agg #[.int .i64 4, .string nm, .string to, .slice d.A d.n d.c]] w (Applied w lo mb (makeF (es.map Ent.file) (4, nm, to, d.xs))) := by
  have hkey := Lib.hid (keyNm (s := nm) (by unfold maxLen; omega))
  have HM := Lib.hid hm
  have hlo : lo ≤ w.heap.size := by have := hm.base; have := hm.lt; omega
  have HV : Hid (makeF (es.map Ent.file) (4, nm, to, d.xs) = (lessK Ent.nm nm es).map Ent.file) := Lib.hid (by rw [lessK_map (f := Ent.file) (key := Ent.nm) (key' := Prod.fst) (fun _ => rfl)]; rfl)
  clear hm
  go_enter Try.func55, Try.ntmps55
  go_wp2_with (at_delete; refine wpList_delete_own _ rfl _ _ 71 9 rfl 22 Try.keyed Try.underlying71 rawR mb es.length (mapD es) rfl (HM.out.below (below_a1 _ _)).own _ _ rfl hkey.out ?_; intro w1 ho1 hg1)
  go_end0
  refine ⟨_, rfl, HV.out.symm, (HM.out.below (below_a1 _ _)).dropped hg1.grown ho1, ?_⟩
  exact (((Below.refl lo w).alloc hlo _).grown hg1.grown (by simp; omega) (fun k hk => by injection hk with hk; have := HM.out.base; omega))
end Go.Proofs.Ytejibpajjoaldaa
namespace Go.Proofs.Ytejibpajjoaldaa
open Go.RowKit Go.Maps

structure RestIs (w : World) (lo mb : Nat) (es : List Ent) (s : ByteArray) : Prop where
  own : w.ownsMap Try.prog 9 rawR mb es.length (mapD es)
  base : lo ≤ mb
  ok : ∀ e ∈ lessK Ent.nm s es, e.d.Ok w
  room : ∀ e ∈ lessK Ent.nm s es, e.d.n < e.d.c → w.ownsRow lo 5 1 e.d.v e.d.n (vb e.d.xs)
  apart : (lessK Ent.nm s es).Pairwise Gap

section
variable {w w1 : World} {lo mb : Nat} {es : List Ent}
theorem RestIs.stored {x : Ent} {k : Nat} (h : RestIs w lo mb es x.nm) (hg : w.grownBy w1 (some mb)) (ho : w1.ownsMap Try.prog 9 rawR mb k ((mapD es).put (nmL x.nm) (.held (.slice x.d.A x.d.n x.d.c)))) (hx : x.d.Ok w) (hr : x.d.n < x.d.c → w.ownsRow lo 5 1 x.d.v x.d.n (vb x.d.xs)) (ha : ∀ e ∈ lessK Ent.nm x.nm es, Gap x e) : MapIs w1 lo mb (withK Ent.nm x es) := by
  rw [mapD_put] at ho
  obtain ⟨a, c, hb, _⟩ := h.own
  refine ⟨tight ho, h.base, fun e he => ?_, fun e he hc => ?_, ?_⟩
  · rcases insK_mem.1 he with rfl | he
    · exact ⟨rd_map hx.rd hg hb, hx.cap⟩
    · exact ⟨rd_map (h.ok e he).rd hg hb, (h.ok e he).cap⟩
  · rcases insK_mem.1 he with rfl | he
    · exact own_map (hr hc) hg hb
    · exact own_map (h.room e he hc) hg hb
  · exact ((insK_perm x (lessK Ent.nm x.nm es)).pairwise_iff (fun {a b} (hh : Gap a b) => hh.symm)).2 (List.pairwise_cons.2 ⟨ha, h.apart⟩)
theorem MapIs.rest_below (h : MapIs w lo mb es) (hb : Below w.heap.size w w1) (s : ByteArray) : RestIs w1 lo mb es s :=
  ⟨(h.below hb).own, h.base, fun e he => (h.below hb).ok e (lessK_mem he).1, fun e he hc => (h.below hb).room e (lessK_mem he).1 hc, h.apart.filter _⟩
theorem MapIs.lies (h : MapIs w lo mb es) {e : Ent} (he : e ∈ es) (hc : e.d.c ≠ 0) {b : Nat} (hb : e.d.v.ownBlock = some b) : b < w.heap.size := by
  by_cases hr : e.d.n < e.d.c
  · exact ((h.room e he hr).lt b hb).2
  · have := (h.ok e he).cap
    obtain ⟨g, off, e2, hlt, _⟩ := (h.ok e he).rd.lies (by omega)
    have : g = b := by simpa [Dat.v, Value.ownBlock, e2] using hb
    omega
theorem MapIs.rest_room {e : Ent} (h : MapIs w lo mb es) (he : e ∈ es) (hr : e.d.n < e.d.c) (hg : w.grownBy w1 e.d.v.ownBlock) : RestIs w1 lo mb es e.nm := by
  obtain ⟨a, c, hb, _⟩ := h.own
  have hne : e.d.v.ownBlock ≠ some mb := fun e2 => by
    rcases (h.room e he hr).2 with ⟨h1, _⟩ | ⟨g, cap, cur, h1, _, hh, _⟩
    · rw [h1] at e2
      simp [Value.ownBlock] at e2
    · rw [h1] at e2
      have : g = mb := by simpa [Value.ownBlock] using e2
      subst this
      rw [hb] at hh
      cases hh
  have hap : ∀ f ∈ lessK Ent.nm e.nm es, f.d.c ≠ 0 → e.d.v.ownBlock = none ∨ e.d.v.ownBlock ≠ f.d.v.ownBlock := fun f hf hc => by
    obtain ⟨h1, h2⟩ := lessK_mem hf
    rcases h.gap he h1 (fun e => h2 e.symm) (.inl hr) with h3 | h3 | h3
    · omega
    · exact absurd h3 hc
    · exact h3
  refine ⟨h.own.kept hg (fun e => hne e.symm), h.base, fun f hf => ?_, fun f hf hc => ?_, h.apart.filter _⟩
  · obtain ⟨h1, _⟩ := lessK_mem hf
    have hk := h.ok f h1
    refine ⟨⟨hk.rd.len, hk.rd.small, fun hn => ?_⟩, hk.cap⟩
    obtain ⟨b, off, e2, hlt, hcells⟩ := hk.rd.lies hn
    have hs := hg.size
    refine ⟨b, off, e2, by omega, fun j u hu => (World.cell?_of_block (a := ⟨b, off + j, none⟩) (hg.block b hlt (fun e3 => ?_))).trans (hcells j u hu)⟩
    have hfb : f.d.v.ownBlock = some b := by simp [Dat.v, Value.ownBlock, e2]
    have := hk.cap
    rcases hap f hf (by omega) with h4 | h4
    · rw [h4] at e3
      cases e3
    · exact h4 (by rw [hfb, e3])
  · obtain ⟨h1, _⟩ := lessK_mem hf
    refine (h.room f h1 hc).kept hg ?_
    rcases hap f hf (by omega) with h4 | h4
    · cases hf2 : f.d.v.ownBlock with
      | none => exact .inl rfl
      | some b => exact .inr (by rw [h4]; simp)
    · exact .inr (fun e => h4 e.symm)
/-- What an append makes lies in the entry's own block or in a new one. -/
theorem gap_new {e x : Ent} (h : MapIs w lo mb es) (he : e ∈ es) (hx : (x.d.v.ownBlock = e.d.v.ownBlock ∧ (x.d.n < x.d.c → e.d.n < e.d.c) ∧ (e.d.c = 0 → x.d.c = 0)) ∨ x.d.v.ownBlock = some w.heap.size) : ∀ f ∈ lessK Ent.nm e.nm es, Gap x f := fun f hf hh => by
  obtain ⟨h1, h2⟩ := lessK_mem hf
  by_cases hc : f.d.c = 0
  · exact .inr (.inl hc)
  rcases hx with ⟨h3, h4, h5⟩ | h3
  · rcases h.gap he h1 (fun e => h2 e.symm) (hh.imp_left h4) with h6 | h6 | h6
    · exact .inl (h5 h6)
    · exact .inr (.inl h6)
    · exact .inr (.inr (by unfold Apart at *; rw [h3]; exact h6))
  · refine .inr (.inr (.inr ?_))
    rw [h3]
    intro e2
    have := h.lies h1 hc e2.symm
    omega
end

section
variable {P : Program}
theorem step_lookup_raw (w : World) {ops : Array Oper} {o : Oper} {a : Act} {K : Act → World → Prop} {Q : Exit → Act → World → Prop} {E : Prop} (hg : o.guard = none) (m x : Operand) (t : TypeId) (hop : o.op = Op.lookup t m x false) (k e : TypeId) (K0 : Keyed P k) (ht : P.underlying t = some (.map k e)) (hz : (zeroValue e).run P w = .ok (.slice none 0 0) w) (b n : Nat) (D : DataW Value)
    (hm : a.eval m = .map (some b)) (hown : w.ownsMap P k rawR b n D) (key : Value) (kl : Lit) (hx : a.eval x = key) (hkey : keyOf P k key = some kl) (A : Option Addr) (n2 c : Nat) (hat : ∀ z, D.atKey kl z = .held (.slice A n2 c))
    (hK : K (a.put o.dst (.slice A n2 c)) w) : if Region.wanted o (yielded ops a.tmps) = true then Oper.wp P o a w K Q else E := by
  have hw : Region.wanted o (yielded ops a.tmps) = true := by simp [Region.wanted, hg]
  rw [if_pos hw]
  have hrun := look_raw hown K0 ht hz hkey hat
  unfold Oper.wp
  simp [execOp, hop, hm, hx, hrun, Result.andThen]
  exact hK
theorem step_store_raw (w : World) {ops : Array Oper} {o : Oper} {a : Act} {K : Act → World → Prop} {Q : Exit → Act → World → Prop} {E : Prop} (hg : o.guard = none) (m x v : Operand) (t : TypeId) (hop : o.op = Op.mapUpdate t m x v) (k e : TypeId) (K0 : Keyed P k) (ht : P.underlying t = some (.map k e)) (b n : Nat) (D : DataW Value)
    (hm : a.eval m = .map (some b)) (hown : w.ownsMap P k rawR b n D) (hn : n < maxLen) (key val : Value) (kl : Lit) (hx : a.eval x = key) (hv : a.eval v = val) (hkey : keyOf P k key = some kl) (d : DataW Value) (ps : List MemPlace) (hval : rawR val = some (d, ps))
    (hK : ∀ w', w'.ownsMap P k rawR b (n + 1) (D.put kl d) → w.grownBy w' (some b) → K (a.put o.dst undef) w') : if Region.wanted o (yielded ops a.tmps) = true then Oper.wp P o a w K Q else E := by
  have hw : Region.wanted o (yielded ops a.tmps) = true := by simp [Region.wanted, hg]
  rw [if_pos hw]
  obtain ⟨w', hrun, r1, r2⟩ := hown.update K0 ht hn hkey hval
  unfold Oper.wp
  simp [execOp, hop, hm, hx, hv, hrun, Result.andThen]
  exact hK w' r1 r2
end
end Go.Proofs.Ytejibpajjoaldaa
namespace Go.Proofs.Ytejibpajjoaldaa
open Go.RowKit Go.Maps

set_option maxRecDepth 10000 in
set_option maxHeartbeats 2000000 in
theorem implApply_2a (lo mb : Nat) (es : List Ent) (e : Ent) (to : ByteArray) (d : Dat) (w : World) (hm : MapIs w lo mb es) (hl : es.length ≤ 1048576) (hs : e.nm.size ≤ 1048576) (hd : d.Ok w) (hdn : d.n ≤ 16777216) (hen : e.d.n ≤ 16777216) (hf : findK Ent.nm e.nm es = some e) (hroom : e.d.n < e.d.c) :
    Calls Try.prog 55 #[.map (some mb), .agg #[.int .i64 2, .string e.nm, .string to, .slice d.A d.n d.c]] w (Applied w lo mb (makeF (es.map Ent.file) (2, e.nm, to, d.xs))) := by
  obtain ⟨i0, hi, hz0, hz1, hz2⟩ := info_parts Try.infoByte
  have hkey := Lib.hid (keyNm (s := e.nm) (by unfold maxLen; omega))
  have HM := Lib.hid (fun W (h : Below w.heap.size w W) => hm.below h)
  have HE := Lib.hid (findK_mem hf).1
  have HD := Lib.hid hd
  have HR := Lib.hid (hm.room e HE.out hroom)
  have hat := Lib.hid (mapD_find hf)
  have hlo : lo ≤ w.heap.size := by have := hm.base; have := hm.lt; omega
  have hmb : mb < w.heap.size := hm.lt
  have hlm : lo ≤ mb := hm.base
  have HL := Lib.hid (fun k hk => HR.out.lt k hk)
  have HV : Hid (∀ y : Ent, y.nm = e.nm → y.d.xs = e.d.xs ++ d.xs → makeF (es.map Ent.file) (2, e.nm, to, d.xs) = (withK Ent.nm y es).map Ent.file) := Lib.hid (fun y h1 h2 => by
    rw [withK_map (f := Ent.file) (key := Ent.nm) (key' := Prod.fst) (fun _ => rfl)]
    simp only [makeF, withF, dataF_find hf, Ent.file, h1, h2]
    rfl)
  have HS := Lib.hid (hm.ok e HE.out)
  clear hm hf hd
  go_enter Try.func55, Try.ntmps55
  go_wp2
  have hrunL : (Instr.lookup 71 (.map (some mb)) (.string e.nm) false).run Try.prog (w.alloc (.cells #[.int .i64 2, .string e.nm, .string to, .slice d.A d.n d.c] 30)).drew = .ok (.slice e.d.A e.d.n e.d.c) (w.alloc (.cells #[.int .i64 2, .string e.nm, .string to, .slice d.A d.n d.c] 30)).drew := look_raw (HM.out _ (below_a1 _ _).drew).own Try.keyed Try.underlying71 (Try.zeroS _) hkey.out hat.out
  have HMW := Lib.hid (HM.out _ (below_a1 w (.cells #[.int .i64 2, .string e.nm, .string to, .slice d.A d.n d.c] 30)).drew)
  go_region_held3 (fun W => W.cell? ⟨w.heap.size, 1, none⟩ = some (.string e.nm) ∧ W.cell? ⟨w.heap.size, 3, none⟩ = some (.slice d.A d.n d.c))
    (first
      | go_keep
      | (exact ⟨(World.cell?_of_block (a := ⟨w.heap.size, 1, none⟩) (hg3.block w.heap.size (by omega) (fun hh => by injection hh with hh; omega))).trans (by simp [*]), (World.cell?_of_block (a := ⟨w.heap.size, 3, none⟩) (hg3.block w.heap.size (by omega) (fun hh => by injection hh with hh; omega))).trans (by simp [*])⟩)
      | (exact ⟨(World.cell?_of_block (a := ⟨w.heap.size, 1, none⟩) (hg1.block w.heap.size (by simp) (fun hh => by have := (HL.out _ hh.symm).2; omega))).trans (by simp [*]), (World.cell?_of_block (a := ⟨w.heap.size, 3, none⟩) (hg1.block w.heap.size (by simp) (fun hh => by have := (HL.out _ hh.symm).2; omega))).trans (by simp [*])⟩))
    (first
      | (refine step_append_any _ (by rfl) (.tmp 19) (.tmp 21) _ (by rfl) lo 5 i0 _ 1 1 Try.underlying22 hi hz0 hz1 hz2 rfl (by omega) e.d.v e.d.n (vb e.d.xs) (by rfl) (own_below HR.out (by first | exact below_a1 _ _ | exact (below_a1 _ _).drew)) _ d.A d.n d.c (vb d.xs) (by rfl) (HD.out.rd.below (by first | exact below_a1 _ _ | exact (below_a1 _ _).drew)).reads (vb_oneCell _) (by simp only [maxLen]; omega) (by omega) (by simp; omega) ?_; intro v1 w2 hown1 hg1 hat1; have HB2 : Hid (Below lo w w2) := Lib.hid (((Below.refl lo w).alloc hlo _).drew.grown hg1 (by simp; omega) (fun k hk => (HL.out k hk).1)); have hw2 : w.heap.size < w2.heap.size := (by have := hg1.size; simp at this; omega); have HRest : Hid (RestIs w2 lo mb es e.nm) := Lib.hid (HMW.out.rest_room HE.out hroom hg1); have HG : Hid (∀ x : Ent, x.d.v = v1 → ∀ f ∈ lessK Ent.nm e.nm es, Gap x f) := Lib.hid (fun x hx => gap_new HMW.out HE.out (by rw [hx]; exact hat1.imp (fun h => ⟨h, fun _ => hroom, fun h0 => by omega⟩) id)); obtain ⟨A1, c1, hv1⟩ := own_form hown1; subst hv1; obtain ⟨w3, hrun3, ho3, hg3⟩ := HRest.out.own.update Try.keyed Try.underlying71 (by unfold maxLen; omega) hkey.out (val := .slice A1 (e.d.n + d.n) c1) (d := .held (.slice A1 (e.d.n + d.n) c1)) (ps := []) rfl))
  all_goals
    go_wp2
    go_end0
    have hsm : ∀ x ∈ e.d.xs ++ d.xs, x < 256 := fun x hx => by
      rcases List.mem_append.1 hx with hx | hx
      · exact HS.out.rd.small x hx
      · exact HD.out.rd.small x hx
    have ho5 : w2.ownsRow lo 5 1 (.slice A1 (e.d.n + d.n) c1) (e.d.n + d.n) (vb (e.d.xs ++ d.xs)) := by rw [vb_append]; exact hown1
    refine ⟨_, rfl, (HV.out ⟨e.nm, ⟨A1, e.d.n + d.n, c1, e.d.xs ++ d.xs⟩⟩ rfl rfl).symm, HRest.out.stored (x := ⟨e.nm, ⟨A1, e.d.n + d.n, c1, e.d.xs ++ d.xs⟩⟩) hg3 ho3 ⟨Rd.of_own ho5 hsm, own_cap ho5⟩ (fun _ => ho5) (HG.out _ rfl), ?_⟩
    exact HB2.out.grown hg3 (by omega) (fun k hk => by injection hk with hk; omega)

theorem FullApp.grow {W w' : World} {lo mb : Nat} {es : List Ent} {e : Ent} {d : Dat} {v : Value} (h : FullApp W 5 1 e.d.A e.d.n d.n (vb e.d.xs ++ vb d.xs) v w') (hM : MapIs W lo mb es) (he : e ∈ es) (hfull : e.d.c = e.d.n) (hd : d.Ok W) (hlo : lo ≤ W.heap.size) :
    ∃ A c, v = .slice A (e.d.n + d.n) c ∧ (⟨A, e.d.n + d.n, c, e.d.xs ++ d.xs⟩ : Dat).Ok w' ∧ (e.d.n + d.n < c → w'.ownsRow lo 5 1 (.slice A (e.d.n + d.n) c) (e.d.n + d.n) (vb (e.d.xs ++ d.xs))) ∧ (∀ f ∈ lessK Ent.nm e.nm es, Gap ⟨e.nm, ⟨A, e.d.n + d.n, c, e.d.xs ++ d.xs⟩⟩ f) ∧ Below W.heap.size W w' := by
  have hk := hM.ok e he
  rcases h with ⟨h0, rfl, rfl⟩ | ⟨_, cap, rfl, ho, hb⟩
  · have hye : d.xs = [] := List.eq_nil_of_length_eq_zero (by have := hd.rd.len; omega)
    refine ⟨e.d.A, e.d.n, by rw [h0]; rfl, ⟨by rw [hye, h0]; simpa using hk.rd, by simp only; omega⟩, fun hh => by omega, gap_new hM he (.inl ⟨?_, fun hh => ?_, fun hh => ?_⟩), Below.refl _ _⟩
    · show (Value.slice e.d.A (e.d.n + d.n) e.d.n).ownBlock = (Value.slice e.d.A e.d.n e.d.c).ownBlock
      cases e.d.A <;> rfl
    · simp only at hh
      omega
    · simp only
      omega
  · rw [← vb_append] at ho
    have hsm : ∀ x ∈ e.d.xs ++ d.xs, x < 256 := fun x hx => by
      rcases List.mem_append.1 hx with hx | hx
      · exact hk.rd.small x hx
      · exact hd.rd.small x hx
    exact ⟨_, cap, rfl, ⟨Rd.of_own ho hsm, own_cap ho⟩, fun _ => own_mono ho hlo, gap_new hM he (.inr (by simp [Dat.v, Value.ownBlock])), hb⟩

set_option maxRecDepth 10000 in
set_option maxHeartbeats 2000000 in
theorem implApply_2b (lo mb : Nat) (es : List Ent) (e : Ent) (to : ByteArray) (d : Dat) (w : World) (hm : MapIs w lo mb es) (hl : es.length ≤ 1048576) (hs : e.nm.size ≤ 1048576) (hd : d.Ok w) (hdn : d.n ≤ 16777216) (hen : e.d.n ≤ 16777216) (hf : findK Ent.nm e.nm es = some e) (hfull : e.d.c = e.d.n) :
    Calls Try.prog 55 #[.map (some mb), .agg #[.int .i64 2, .string e.nm, .string to, .slice d.A d.n d.c]] w (Applied w lo mb (makeF (es.map Ent.file) (2, e.nm, to, d.xs))) := by
  obtain ⟨i0, hi, hz0, hz1, hz2⟩ := info_parts Try.infoByte
  have hkey := Lib.hid (keyNm (s := e.nm) (by unfold maxLen; omega))
  have HM := Lib.hid (fun W (h : Below w.heap.size w W) => hm.below h)
  have HE := Lib.hid (findK_mem hf).1
  have HD := Lib.hid hd
  have hat := Lib.hid (mapD_find hf)
  rw [hfull] at hat
  have hlo : lo ≤ w.heap.size := by have := hm.base; have := hm.lt; omega
  have hmb : mb < w.heap.size := hm.lt
  have hlm : lo ≤ mb := hm.base
  have HV : Hid (∀ y : Ent, y.nm = e.nm → y.d.xs = e.d.xs ++ d.xs → makeF (es.map Ent.file) (2, e.nm, to, d.xs) = (withK Ent.nm y es).map Ent.file) := Lib.hid (fun y h1 h2 => by
    rw [withK_map (f := Ent.file) (key := Ent.nm) (key' := Prod.fst) (fun _ => rfl)]
    simp only [makeF, withF, dataF_find hf, Ent.file, h1, h2]
    rfl)
  have HS := Lib.hid (hm.ok e HE.out)
  clear hm hf hd
  go_enter Try.func55, Try.ntmps55
  go_wp2
  have hrunL : (Instr.lookup 71 (.map (some mb)) (.string e.nm) false).run Try.prog (w.alloc (.cells #[.int .i64 2, .string e.nm, .string to, .slice d.A d.n d.c] 30)).drew = .ok (.slice e.d.A e.d.n e.d.n) (w.alloc (.cells #[.int .i64 2, .string e.nm, .string to, .slice d.A d.n d.c] 30)).drew := look_raw (HM.out _ (below_a1 _ _).drew).own Try.keyed Try.underlying71 (Try.zeroS _) hkey.out hat.out
  have HMW := Lib.hid (HM.out _ (below_a1 w (.cells #[.int .i64 2, .string e.nm, .string to, .slice d.A d.n d.c] 30)).drew)
  have HDW := Lib.hid (HD.out.below (below_a1 w (.cells #[.int .i64 2, .string e.nm, .string to, .slice d.A d.n d.c] 30)).drew)
  go_region_held3 (fun W => W.cell? ⟨w.heap.size, 1, none⟩ = some (.string e.nm) ∧ W.cell? ⟨w.heap.size, 3, none⟩ = some (.slice d.A d.n d.c))
    (first
      | go_keep
      | (exact ⟨(World.cell?_of_block (a := ⟨w.heap.size, 1, none⟩) (hg3.block w.heap.size (by omega) (fun hh => by injection hh with hh; omega))).trans (by simp [*]), (World.cell?_of_block (a := ⟨w.heap.size, 3, none⟩) (hg3.block w.heap.size (by omega) (fun hh => by injection hh with hh; omega))).trans (by simp [*])⟩)
      | (exact ⟨(hb1.cell (p := ⟨w.heap.size, 1, none⟩) (by simp)).trans (by simp [*]), (hb1.cell (p := ⟨w.heap.size, 3, none⟩) (by simp)).trans (by simp [*])⟩))
    (first
      | (refine step_append_full _ (by rfl) (.tmp 19) (.tmp 21) _ (by rfl) 5 i0 _ 1 1 Try.underlying22 hi hz0 hz1 hz2 rfl _ e.d.A e.d.n (vb e.d.xs) (by rfl) (HS.out.rd.below (by first | exact below_a1 _ _ | exact (below_a1 _ _).drew)).reads _ d.A d.n d.c (vb d.xs) (by rfl) (HD.out.rd.below (by first | exact below_a1 _ _ | exact (below_a1 _ _).drew)).reads (by simp only [maxLen]; omega) (by omega) ?_; intro v1 w2 hfa; obtain ⟨A1, c1, hv1, hok1, hr1, hgap1, hb1⟩ := hfa.grow HMW.out HE.out hfull HDW.out (by simp; omega); subst hv1; have HRest : Hid (RestIs w2 lo mb es e.nm) := Lib.hid (HMW.out.rest_below hb1 _); have hw2 : w.heap.size < w2.heap.size := (by have := hb1.size; simp at this; omega); have HB2 : Hid (Below lo w w2) := Lib.hid (((Below.refl lo w).alloc hlo _).drew.trans (hb1.mono (by simp; omega))); have HO := Lib.hid hok1; have HR1 := Lib.hid hr1; have HG1 := Lib.hid hgap1; clear hok1 hr1 hgap1; obtain ⟨w3, hrun3, ho3, hg3⟩ := HRest.out.own.update Try.keyed Try.underlying71 (by unfold maxLen; omega) hkey.out (val := .slice A1 (e.d.n + d.n) c1) (d := .held (.slice A1 (e.d.n + d.n) c1)) (ps := []) rfl))
  all_goals
    go_wp2
    go_end0
    refine ⟨_, rfl, (HV.out ⟨e.nm, ⟨A1, e.d.n + d.n, c1, e.d.xs ++ d.xs⟩⟩ rfl rfl).symm, HRest.out.stored (x := ⟨e.nm, ⟨A1, e.d.n + d.n, c1, e.d.xs ++ d.xs⟩⟩) hg3 ho3 HO.out HR1.out HG1.out, ?_⟩
    exact HB2.out.grown hg3 (by omega) (fun k hk => by injection hk with hk; omega)

theorem implApply_2 (lo mb : Nat) (es : List Ent) (e : Ent) (to : ByteArray) (d : Dat) (w : World) (hm : MapIs w lo mb es) (hl : es.length ≤ 1048576) (hs : e.nm.size ≤ 1048576) (hd : d.Ok w) (hdn : d.n ≤ 16777216) (hen : e.d.n ≤ 16777216) (hf : findK Ent.nm e.nm es = some e) :
    Calls Try.prog 55 #[.map (some mb), .agg #[.int .i64 2, .string e.nm, .string to, .slice d.A d.n d.c]] w (Applied w lo mb (makeF (es.map Ent.file) (2, e.nm, to, d.xs))) := by
  by_cases h : e.d.n < e.d.c
  · exact implApply_2a lo mb es e to d w hm hl hs hd hdn hen hf h
  · have := (hm.ok e (findK_mem hf).1).cap
    exact implApply_2b lo mb es e to d w hm hl hs hd hdn hen hf (by omega)
end Go.Proofs.Ytejibpajjoaldaa
namespace Go.Proofs.Ytejibpajjoaldaa
open Go.RowKit Go.Maps

theorem find_of_has {es : List Ent} {s : ByteArray} (h : hasF s (es.map Ent.file) = true) : ∃ e, findK Ent.nm s es = some e := by
  rw [hasF_ents, hasK_find] at h
  exact Option.isSome_iff_exists.1 h
theorem implApply (lo mb : Nat) (es : List Ent) (o : OpE) (w : World) (hm : MapIs w lo mb es) (hl : es.length ≤ 1048576) (hs : o.nm.size ≤ 1048576) (hs2 : o.to.size ≤ 1048576) (hd : o.d.Ok w) (hdn : o.d.n ≤ 16777216) (hen : ∀ e ∈ es, e.d.n ≤ 16777216) (h1 : 1 ≤ o.kind) (h4 : o.kind ≤ 4) (hfit : fitsF (es.map Ent.file) o.op = true) :
    Calls Try.prog 55 #[.map (some mb), o.v] w (Applied w lo mb (makeF (es.map Ent.file) o.op)) := by
  obtain ⟨kind, nm, to, d⟩ := o
  simp only [OpE.op, OpE.v] at *
  have hk : kind = 1 ∨ kind = 2 ∨ kind = 3 ∨ kind = 4 := by omega
  rcases hk with rfl | rfl | rfl | rfl
  · exact implApply_1 lo mb es nm to d w hm hl hs
  · obtain ⟨e, hf⟩ := find_of_has (s := nm) (by simpa [fitsF] using hfit)
    obtain ⟨he, rfl⟩ := findK_mem hf
    exact implApply_2 lo mb es e to d w hm hl hs hd hdn (hen e he) hf
  · have h3 : hasF nm (es.map Ent.file) = true ∧ to ≠ nm := by simpa [fitsF] using hfit
    obtain ⟨e, hf⟩ := find_of_has h3.1
    exact implApply_3 lo mb es nm to d e w hm hl hs hs2 hf h3.2
  · exact implApply_4 lo mb es nm to d w hm hs
end Go.Proofs.Ytejibpajjoaldaa
namespace Go.Proofs.Ytejibpajjoaldaa
open Go.RowKit Go.Maps

set_option maxRecDepth 10000 in
set_option maxHeartbeats 2000000 in
theorem implClip (d : Dat) (w : World) (hd : d.Ok w) (_hn : d.n ≤ 16777216) :
    Calls Try.prog 83 #[.slice d.A d.n d.c] w (fun e w' => (∃ A, e = .returned (.slice A d.n d.n) ∧ (⟨A, d.n, d.n, d.xs⟩ : Dat).Ok w') ∧ Below w.heap.size w w') := by
  have hc := hd.cap
  have HD := Lib.hid hd
  clear hd
  go_enter Try.func83, Try.ntmps83
  go_wp2
  go_ret
  exact ⟨⟨d.A, rfl, HD.out.rd, Nat.le_refl _⟩, Below.refl _ _⟩
end Go.Proofs.Ytejibpajjoaldaa
