/- Plain facts for FlowTurns. -/
import Derived.Test.YtmmafibeciaghaaSendp
import Derived.Test.YtmmafibeciaghaaTurnz
namespace Go.Proofs.Ytmmafibeciaghaa

/-- What is sent from S to T leaves a flow one. -/
theorem right_sent {N : Nat} {S T : Int} {l : List ArcN} {F : List Int} {H : List HopN} (hl : F.length = l.length) (hR : RightIn N S T l F) (hw : Way l S H T) (d : Int) : RightIn N S T l (sent F H d) := fun u hu => by
  rcases hR u hu with h | h | h
  · exact .inl h
  · exact .inr (.inl h)
  · by_cases e1 : (u : Int) = S
    · exact .inl e1
    · by_cases e2 : (u : Int) = T
      · exact .inr (.inl e2)
      · refine .inr (.inr ?_)
        rw [ex_sent hl hw, if_neg (fun e => e2 e.symm), if_neg (fun e => e1 e.symm), h]
        rfl
theorem worth_sent {S T : Int} {l : List ArcN} {F : List Int} {H : List HopN} (hl : F.length = l.length) (hST : S ≠ T) (hw : Way l S H T) {d : Int} (hd : 0 ≤ d) (h0 : 0 ≤ exOf l F T) : 0 ≤ exOf l (sent F H d) T := by
  rw [ex_sent hl hw, if_pos rfl, if_neg hST]
  omega
theorem flow_turn {l : List ArcN} {F : List Int} (h : FlowIn l F) : FlowIn (l.map turnArc) F :=
  ⟨by rw [List.length_map]; exact h.len, fun i a x ha hx => by
    rw [List.getElem?_map] at ha
    cases hb : l[i]? with
    | none => rw [hb] at ha; cases ha
    | some b =>
      rw [hb] at ha
      simp only [Option.map_some, Option.some.injEq] at ha
      subst ha
      exact h.ent i b x hb hx⟩
theorem right_turn {N : Nat} {S T : Int} {l : List ArcN} {F : List Int} (h : RightIn N S T l F) : RightIn N T S (l.map turnArc) F := fun u hu => by
  rcases h u hu with e | e | e
  · exact .inr (.inl e)
  · exact .inl e
  · exact .inr (.inr (by rw [exOf_turn, e]; rfl))
theorem flow_zero {l : List ArcN} {n : Nat} (hl : l.length = n) (hn : NonNeg l) : FlowIn l (List.replicate n 0) :=
  ⟨by simp [hl], fun i a x ha hx => by
    have := hn a (mem_at ha)
    have hx0 : x = 0 := by
      have := List.mem_of_getElem? hx
      exact List.eq_of_mem_replicate this
    omega⟩
theorem right_zero (N : Nat) (S T : Int) (l : List ArcN) (n : Nat) : RightIn N S T l (List.replicate n 0) := fun u _ => .inr (.inr (exOf_zero l n u))

end Go.Proofs.Ytmmafibeciaghaa
