/- A map from names to slices of bytes, read raw: the entries stand in the order of their names, as the model's lists do (plain lemmas; no condition). -/
import Derived.Test.YtfcomnpoehpgiaaDiskMath
import Derived.Maps.RangeWalk
namespace Go.Proofs.Ytfcomnpoehpgiaa
open Go.RowKit Go.Maps

def rawR : Value → Option (DataW Value × List MemPlace)
  | .slice A n c => some (.held (.slice A n c), [])
  | _ => none
def nmL (s : ByteArray) : Lit := .string s.data.toList
def entD (e : Ent) : Lit × DataW Value := (nmL e.nm, .held (.slice e.d.A e.d.n e.d.c))
def mapD (es : List Ent) : DataW Value := .map (es.map entD)

theorem before_less : ∀ (a b : List UInt8), bytesBefore a b = Op.bytesLess a b
  | [], [] => rfl
  | [], _ :: _ => rfl
  | _ :: _, [] => rfl
  | a :: r, b :: s => by simp only [bytesBefore, Op.bytesLess, before_less r s]
theorem ltB_before (a b : ByteArray) : ltB a b = bytesBefore a.data.toList b.data.toList := by
  unfold ltB
  rw [ByteArray.toList_eq, ByteArray.toList_eq, before_less]
theorem data_inj {a b : ByteArray} (h : a.data.toList = b.data.toList) : a = b := ByteArray.ext (Array.ext' h)
theorem sameKey_nm (a b : ByteArray) : (nmL a).sameKey (nmL b) = decide (a = b) := by
  unfold nmL Lit.sameKey
  by_cases h : a = b
  · simp [h]
  · simp only [h, decide_false, beq_eq_false_iff_ne, ne_eq]
    exact fun e => h (data_inj e)
theorem gtN_before {a b : ByteArray} (h : a ≠ b) : gtN a b = (nmL b).before (nmL a) := by
  show gtN a b = bytesBefore b.data.toList a.data.toList
  unfold gtN
  have h2 : (a.toList == b.toList) = false := by
    simp only [beq_eq_false_iff_ne, ne_eq, ByteArray.toList_eq]
    exact fun e => h (data_inj e)
  rw [h2, Bool.or_false, ByteArray.toList_eq, ByteArray.toList_eq, ← before_less]
  have hne : a.data.toList ≠ b.data.toList := fun e => h (data_inj e)
  rcases WideAt.bytes_total _ _ hne with h1 | h1
  · have h3 : bytesBefore b.data.toList a.data.toList = false := by
      cases hb : bytesBefore b.data.toList a.data.toList with
      | false => rfl
      | true =>
        have := WideShapes.bytes_trans _ _ _ h1 hb
        rw [WideAt.bytes_irrefl] at this
        cases this
    rw [h1, h3]
    rfl
  · have h3 : bytesBefore a.data.toList b.data.toList = false := by
      cases hb : bytesBefore a.data.toList b.data.toList with
      | false => rfl
      | true =>
        have := WideShapes.bytes_trans _ _ _ h1 hb
        rw [WideAt.bytes_irrefl] at this
        cases this
    rw [h1, h3]
    rfl

theorem mapD_has (s : ByteArray) (es : List Ent) : Maps.has (mapD es) (nmL s) = hasK Ent.nm s es := by
  unfold Maps.has mapD hasK
  simp only [List.any_map]
  congr 1
  funext e
  exact sameKey_nm e.nm s
theorem mapD_size (es : List Ent) : Maps.size (mapD es) = es.length := by simp [Maps.size, mapD]
theorem mapD_at (s : ByteArray) (z : DataW Value) : ∀ es : List Ent, (mapD es).atKey (nmL s) z = ((findK Ent.nm s es).map fun e => DataW.held (.slice e.d.A e.d.n e.d.c)).getD z
  | [] => rfl
  | e :: r => by
    have ih := mapD_at s z r
    unfold mapD DataW.atKey findK at *
    simp only [List.map_cons, List.find?_cons]
    have hk : ((entD e).1).sameKey (nmL s) = decide (e.nm = s) := sameKey_nm e.nm s
    rw [hk]
    by_cases h : e.nm = s
    · simp [h, entD]
    · simp only [h, decide_false]
      exact ih
theorem mapD_less (s : ByteArray) (es : List Ent) : (es.map entD).filter (fun p => !p.1.sameKey (nmL s)) = (lessK Ent.nm s es).map entD := by
  unfold lessK
  rw [List.filter_map]
  congr 1
  apply List.filter_congr
  intro e _
  have hk : ((entD e).1).sameKey (nmL s) = decide (e.nm = s) := sameKey_nm e.nm s
  simp only [Function.comp, hk, ne_eq]
  by_cases h : e.nm = s <;> simp [h]
theorem mapD_del (s : ByteArray) (es : List Ent) : (mapD es).del (nmL s) = mapD (lessK Ent.nm s es) := by
  show DataW.map ((es.map entD).filter (fun p => !p.1.sameKey (nmL s))) = _
  rw [mapD_less]
  rfl
theorem ins_eq (x : Ent) : ∀ (l : List Ent), (∀ e ∈ l, e.nm ≠ x.nm) → DataW.insert (entD x) (l.map entD) = (insK Ent.nm x l).map entD
  | [], _ => rfl
  | e :: r, h => by
    have hg := gtN_before (h e (by simp))
    simp only [List.map_cons, DataW.insert, insK]
    rw [hg]
    have : (entD x).1.before (entD e).1 = (nmL x.nm).before (nmL e.nm) := rfl
    rw [this]
    split
    · simp
    · rw [List.map_cons, ins_eq x r (fun a ha => h a (by simp [ha]))]
theorem mapD_put (x : Ent) (es : List Ent) : (mapD es).put (nmL x.nm) (.held (.slice x.d.A x.d.n x.d.c)) = mapD (withK Ent.nm x es) := by
  show DataW.map (DataW.insert (entD x) ((es.map entD).filter (fun p => !p.1.sameKey (nmL x.nm)))) = _
  rw [mapD_less, ins_eq x (lessK Ent.nm x.nm es) (fun e he => (lessK_mem he).2)]
  rfl
end Go.Proofs.Ytfcomnpoehpgiaa
