/- Plain mathematics: a graph's text read back gives the graph (valid graphs of at most 400 edges whose text is not too long; no further condition). -/
import Derived.Test.YtggfjnmplokccaaDoorReadMath
import Derived.Test.YtggfjnmplokccaaDoorGrTextB
namespace Go.Proofs.YtggfjnmplokccaaDoor

def decL (n : Int) : List UInt8 := Lib.decDigits n.toNat
def lineL (e : GE) : List UInt8 := decL e.f ++ 32 :: (decL e.t ++ 32 :: decL e.w)
def textL : List GE → List UInt8
  | [] => []
  | e :: r => lineL e ++ 10 :: textL r
theorem numS_list (n : Int) : (numS n).data.toList = decL n := by simp [numS, decL]
theorem join_list (e : GE) : (joinK e 3).data.toList = lineL e := by
  show (⟨#[]⟩ ++ numS e.f ++ spS ++ numS e.t ++ spS ++ numS e.w : ByteArray).data.toList = _
  simp only [ByteArray.data_append, Array.toList_append, numS_list]
  simp [spS, lineL]
theorem fold_list : ∀ (es : List GE) (s : ByteArray), (es.foldl (fun s e => s ++ joinK e 3 ++ nlS) s).data.toList = s.data.toList ++ textL es
  | [], s => by simp [textL]
  | e :: r, s => by
    rw [List.foldl_cons, fold_list r, ByteArray.data_append, ByteArray.data_append, Array.toList_append, Array.toList_append, join_list, textL]
    simp [nlS]
theorem text_list (N : Int) (es : List GE) : (textG N es).data.toList = decL N ++ 10 :: textL es := by
  unfold textG
  rw [fold_list, ByteArray.data_append, Array.toList_append, numS_list]
  simp [nlS]
theorem decL_digit (n : Int) : ∀ c ∈ decL n, 48 ≤ c.toNat ∧ c.toNat ≤ 57 := dec_digit _
theorem digit_ne {c d : UInt8} (h : 48 ≤ c.toNat ∧ c.toNat ≤ 57) (hd : d.toNat < 48) : c ≠ d := by
  intro e
  rw [e] at h
  omega
theorem lineL_no (e : GE) : ∀ c ∈ lineL e, c ≠ 10 := by
  intro c hc
  have h10 : (10 : UInt8).toNat < 48 := by decide
  have h32 : (32 : UInt8) ≠ 10 := by decide
  unfold lineL at hc
  rcases List.mem_append.1 hc with hc | hc
  · exact digit_ne (decL_digit _ c hc) h10
  · rcases List.mem_cons.1 hc with rfl | hc
    · exact h32
    · rcases List.mem_append.1 hc with hc | hc
      · exact digit_ne (decL_digit _ c hc) h10
      · rcases List.mem_cons.1 hc with rfl | hc
        · exact h32
        · exact digit_ne (decL_digit _ c hc) h10
theorem ql_line (p r : List UInt8) (h : ∀ c ∈ p, c ≠ 10) : ql (p ++ 10 :: r) = p :: ql r := by
  rw [ql_skip p _ h, ql_nl]
  simp [attach]
theorem pl_part (p r : List UInt8) (h : ∀ c ∈ p, c ≠ 32) : pl (p ++ 32 :: r) = p :: pl r := by
  rw [pl_skip p _ h, pl_blank]
  simp [attach]
theorem ql_text : ∀ es : List GE, ql (textL es) = es.map lineL ++ [[]]
  | [] => rfl
  | e :: r => by rw [textL, ql_line _ _ (lineL_no e), ql_text r]; rfl
theorem lines_text (N : Int) (es : List GE) : linesOf (textG N es) = mkB (decL N) :: es.map fun e => mkB (lineL e) := by
  unfold linesOf pieces
  rw [text_list, ql_line _ _ (fun c hc => digit_ne (decL_digit _ c hc) (by decide)), ql_text]
  have e : (decL N :: (es.map lineL ++ [[]])).map mkB = (mkB (decL N) :: es.map fun e => mkB (lineL e)) ++ [mkB []] := by simp
  rw [e, cutE_snoc, if_pos (by rfl)]
theorem mkB_list (l : List UInt8) : (mkB l).data.toList = l := by simp [mkB]
theorem numB_dec {n : Int} (h : numOk' n) : numB (mkB (decL n)) = true ∧ valB (mkB (decL n)) = n := by
  unfold numOk' at h
  unfold numB valB
  rw [mkB_list]
  exact ⟨tn_dec _ (by omega), by unfold decL; rw [val10_dec]; omega⟩
theorem parts_line (e : GE) : parts (mkB (lineL e)) = [mkB (decL e.f), mkB (decL e.t), mkB (decL e.w)] := by
  have h32 : (32 : UInt8).toNat < 48 := by decide
  unfold parts
  rw [mkB_list]
  unfold lineL
  rw [pl_part _ _ (fun c hc => digit_ne (decL_digit _ c hc) h32), pl_part _ _ (fun c hc => digit_ne (decL_digit _ c hc) h32), pl_none _ (fun c hc => digit_ne (decL_digit _ c hc) h32)]
  rfl
theorem edgeL_line {N : Int} {e : GE} (h : edgeB N e = true) (hN : N ≤ 150) : edgeL N (mkB (lineL e)) = some e := by
  obtain ⟨h1, h2, h3⟩ := edge_num h hN
  have hn : numsOf (mkB (lineL e)) = [e.f, e.t, e.w] := by
    rw [nums_yes (by
      intro p hp
      rw [parts_line] at hp
      simp only [List.mem_cons, List.mem_nil_iff, or_false] at hp
      rcases hp with rfl | rfl | rfl
      · exact (numB_dec h1).1
      · exact (numB_dec h2).1
      · exact (numB_dec h3).1), parts_line]
    simp only [List.map_cons, List.map_nil, (numB_dec h1).2, (numB_dec h2).2, (numB_dec h3).2]
  rw [edgeL_edge hn, if_pos h]
theorem readE_text {N : Int} (hN : N ≤ 150) : ∀ (es acc : List GE), (∀ e ∈ es, edgeB N e = true) → acc.length + es.length ≤ 400 → readE N acc (es.map fun e => mkB (lineL e)) = ⟨N, acc ++ es, 0⟩
  | [], acc, _, _ => by simp [readE]
  | e :: r, acc, h, hl => by
    rw [List.length_cons] at hl
    rw [List.map_cons, readE_step (edgeL_line (h e (by simp)) hN) (by omega), readE_text hN r _ (fun x hx => h x (by simp [hx])) (by rw [List.length_append]; simp; omega), List.append_assoc]
    rfl
theorem readG_text {N : Int} {es : List GE} (h : graphB N es = true) (hs : es.length ≤ 300) : readG (graphT N es) = ⟨N, es, 0⟩ := by
  obtain ⟨h1, h2, h3, h4⟩ := graphB_iff h
  have hN : numOk' N := by unfold numOk'; omega
  have hz := textG_size hN (fun e he => edge_num (h4 e he) h2)
  unfold graphT
  rw [if_pos h]
  have hl := lines_text N es
  have hd := numB_dec hN
  rw [readG_go (n := N) (by omega) hl (by rw [nums_one hd.1, hd.2]) (by omega), readE_text h2 es [] h4 (by simp; omega)]
  rfl
end Go.Proofs.YtggfjnmplokccaaDoor
