/- An ace as text: l05Who, whoText, l05Ace, AceText of both sides. -/
import Derived.Test.YtlngfaplimpilaaDoorSgn
import Derived.Test.YtlngfaplimpilaaDoorAceRight
namespace Go.Proofs.YtlngfaplimpilaaDoor
open Go.RowKit Go.PlainAid Go.Deep
set_option linter.unusedVariables false
def fdni : ByteArray := ⟨#[102, 100, 110, 105]⟩
def rwxs : ByteArray := ⟨#[114, 119, 120, 97, 100, 99, 67, 111]⟩
/-- Of whom an ace is. -/
def whoT (wh id : Nat) : ByteArray :=
  if wh = 1 then ⟨#[79, 87, 78, 69, 82, 64]⟩ else if wh = 2 then ⟨#[71, 82, 79, 85, 80, 64]⟩ else if wh = 3 then ⟨#[69, 86, 69, 82, 89, 79, 78, 69, 64]⟩ else if wh = 4 then ⟨#[117]⟩ ++ decT id else ⟨#[103]⟩ ++ decT id
theorem whoT_size {wh id : Nat} (h : id ≤ 9999) : (whoT wh id).size ≤ 9 := by
  have h1 := (decT_size h).2
  have e1 : (⟨#[79, 87, 78, 69, 82, 64]⟩ : ByteArray).size = 6 := rfl
  have e2 : (⟨#[71, 82, 79, 85, 80, 64]⟩ : ByteArray).size = 6 := rfl
  have e3 : (⟨#[69, 86, 69, 82, 89, 79, 78, 69, 64]⟩ : ByteArray).size = 9 := rfl
  have e4 : (⟨#[117]⟩ : ByteArray).size = 1 := rfl
  have e5 : (⟨#[103]⟩ : ByteArray).size = 1 := rfl
  unfold whoT
  split
  · omega
  split
  · omega
  split
  · omega
  split
  · rw [ByteArray.size_append]; omega
  · rw [ByteArray.size_append]; omega
/-- The text of an ace. -/
def aceTx (al : Bool) (wh id fl ma : Nat) : ByteArray := (if al then ⟨#[65, 58]⟩ else ⟨#[68, 58]⟩) ++ sgT fl fdni ++ ⟨#[58]⟩ ++ whoT wh id ++ ⟨#[58]⟩ ++ sgT ma rwxs
theorem aceTx_size {al : Bool} {wh id fl ma : Nat} (h : id ≤ 9999) : (aceTx al wh id fl ma).size ≤ 25 := by
  have h1 := whoT_size (wh := wh) h
  have h2 := sgT_size fl fdni
  have h3 := sgT_size ma rwxs
  have e2 : fdni.size = 4 := rfl
  have e3 : rwxs.size = 8 := rfl
  have e4 : (⟨#[58]⟩ : ByteArray).size = 1 := rfl
  have e5 : (if al then (⟨#[65, 58]⟩ : ByteArray) else ⟨#[68, 58]⟩).size = 2 := by cases al <;> rfl
  unfold aceTx
  simp only [ByteArray.size_append, e5]
  omega
/-- AceText. -/
def aceT (x : Ac) : ByteArray := if aceB x then aceTx x.al x.wh.toNat x.id.toNat x.fl.toNat x.ma.toNat else ⟨#[]⟩
theorem aceT_size (x : Ac) : (aceT x).size ≤ 25 := by
  unfold aceT
  split
  next h =>
    obtain ⟨_, h2, _⟩ := aceB_iff.1 h
    exact aceTx_size (by omega)
  · exact Nat.zero_le _
theorem ret_txt {a b : ByteArray} (h : a = b) : Ending.returned (.string a) = .returned (.string b) := by rw [h]
set_option maxRecDepth 100000 in
set_option maxHeartbeats 2000000 in
/-- spec.l05Who. -/
theorem sWho_any (al : Bool) (wh id : Nat) (fl ma : Int) (h1 : 1 ≤ wh) (h5 : wh ≤ 5) (hid : id ≤ 9999) (w : World) :
    Calls Tryd.prog 96 #[.agg #[.bool al, .int .i64 wh, .int .i64 id, .int .i64 fl, .int .i64 ma]] w fun e w' => e = .returned (.string (whoT wh id)) ∧ Below w.heap.size w w' := by
  have hd : Hid (∀ w, Calls Tryd.prog 52 #[.int .i64 id] w fun e w' => e = .returned (.string (decT id)) ∧ Below w.heap.size w w') := sDec_any id hid
  have sd := decT_size hid
  have hF : Hid (Five (w.alloc (.cells #[.bool al, .int .i64 wh, .int .i64 id, .int .i64 fl, .int .i64 ma] 41)) w.heap.size 0 ⟨al, wh, id, fl, ma⟩) := five_new w ⟨al, wh, id, fl, ma⟩ 41
  have hB : Hid (Below w.heap.size w (w.alloc (.cells #[.bool al, .int .i64 wh, .int .i64 id, .int .i64 fl, .int .i64 ma] 41))) := bel_alloc _ _
  obtain ⟨c0, c1, c2, c3, c4⟩ := hF.out
  simp only [Nat.zero_add] at c0 c1 c2 c3 c4
  rcases (by omega : wh = 1 ∨ wh = 2 ∨ wh = 3 ∨ wh = 4 ∨ wh = 5) with rfl | rfl | rfl | rfl | rfl
  all_goals (
    clear h1 h5 hF
    go_enter Tryd.func96, Tryd.ntmps96
    go_wp2_with (go_at_call 52; refine (hd.out _).mono ?_; rintro e w1 ⟨rfl, hb1⟩)
    go_ret
    first
      | exact ⟨ret_txt rfl, hB.out⟩
      | exact ⟨ret_txt rfl, Below.on hB.out hb1⟩)
set_option maxRecDepth 100000 in
set_option maxHeartbeats 2000000 in
/-- impl.whoText. -/
theorem iWho_any (al : Bool) (wh id : Nat) (fl ma : Int) (h1 : 1 ≤ wh) (h5 : wh ≤ 5) (hid : id ≤ 9999) (w : World) (hp : PowW w) :
    Calls Tryd.prog 65 #[.agg #[.bool al, .int .i64 wh, .int .i64 id, .int .i64 fl, .int .i64 ma]] w fun e w' => e = .returned (.string (whoT wh id)) ∧ Below w.heap.size w w' := by
  have sd := decT_size hid
  have hd : Hid (∀ w', Below w.heap.size w w' → Calls Tryd.prog 44 #[.int .i64 id] w' fun e w'' => e = .returned (.string (decT id)) ∧ Below w'.heap.size w' w'') := (fun w' hb => iDigits_any id hid w' (hp.below hb))
  have hj : Hid (∀ (t : ByteArray) w, t.size = 1 → Calls Tryd.prog 45 #[.slice (some ⟨w.heap.size, 0, none⟩) 2 2] (w.alloc (.cells #[.string t, .string (decT id)] 9)) fun e w' => e = .returned (.string (t ++ decT id)) ∧ Below w.heap.size w w') := (fun t w ht => join_two t (decT id) w (by omega))
  have hB : Hid (Below w.heap.size w (w.alloc (.cells #[.bool al, .int .i64 wh, .int .i64 id, .int .i64 fl, .int .i64 ma] 41))) := bel_alloc _ _
  have hF : Hid (Five (w.alloc (.cells #[.bool al, .int .i64 wh, .int .i64 id, .int .i64 fl, .int .i64 ma] 41)) w.heap.size 0 ⟨al, wh, id, fl, ma⟩) := five_new w ⟨al, wh, id, fl, ma⟩ 41
  obtain ⟨c0, c1, c2, c3, c4⟩ := hF.out
  simp only [Nat.zero_add] at c0 c1 c2 c3 c4
  clear hp
  rcases (by omega : wh = 1 ∨ wh = 2 ∨ wh = 3 ∨ wh = 4 ∨ wh = 5) with rfl | rfl | rfl | rfl | rfl
  all_goals (
    clear h1 h5 hF
    go_enter Tryd.func65, Tryd.ntmps65
    go_wp2_with (first
      | (go_at_call 44; refine (hd.out _ hB.out).mono ?_; rintro e w1 ⟨rfl, hb1⟩; have hB1 : Hid (Below w.heap.size w w1) := Below.on hB.out hb1; clear hb1 c0 c1 c2 c3 c4)
      | (go_at_call 45; refine (hj.out _ _ rfl).mono ?_; rintro e w2 ⟨rfl, hb2⟩))
    go_ret
    first
      | exact ⟨ret_txt rfl, hB.out⟩
      | exact ⟨ret_txt rfl, Below.on hB1.out hb2⟩)
def pick7 (a b c d e f g : ByteArray) : Nat → ByteArray := fun i => if i = 0 then a else if i = 1 then b else if i = 2 then c else if i = 3 then d else if i = 4 then e else if i = 5 then f else g
theorem cat7 (a b c d e f g : ByteArray) : (⟨(catTo (pick7 a b c d e f g) 7).toArray⟩ : ByteArray) = a ++ b ++ c ++ d ++ e ++ f ++ g := by
  apply ByteArray.ext
  apply Array.toList_inj.1
  simp [ByteArray.data_append, catTo, pick7]
theorem tot7 (a b c d e f g : ByteArray) : totTo (pick7 a b c d e f g) 7 = a.size + b.size + c.size + d.size + e.size + f.size + g.size := by
  simp [totTo, pick7]
/-- impl.join of seven texts that were just laid in a row. -/
theorem join_seven (a b c d e f g : ByteArray) (w : World) (h : a.size + b.size + c.size + d.size + e.size + f.size + g.size ≤ 1000000) (cap : Nat) :
    Calls Tryd.prog 45 #[.slice (some ⟨w.heap.size, 0, none⟩) 7 cap] (w.alloc (.cells #[.string a, .string b, .string c, .string d, .string e, .string f, .string g] 9)) fun e' w' => e' = .returned (.string (a ++ b ++ c ++ d ++ e ++ f ++ g)) ∧ Below w.heap.size w w' := by
  have hb : (w.alloc (.cells #[.string a, .string b, .string c, .string d, .string e, .string f, .string g] 9)).heap[w.heap.size]? = some (.cells #[.string a, .string b, .string c, .string d, .string e, .string f, .string g] 9) := by
    rw [World.alloc]
    exact Array.getElem?_push_size
  have hc : ∀ k, k < 7 → (w.alloc (.cells #[.string a, .string b, .string c, .string d, .string e, .string f, .string g] 9)).cell? ⟨w.heap.size, 0 + k, none⟩ = some (.string (pick7 a b c d e f g k)) := by
    intro k hk
    simp only [World.cell?, hb, Nat.zero_add]
    match k, hk with
    | 0, _ => rfl
    | 1, _ => rfl
    | 2, _ => rfl
    | 3, _ => rfl
    | 4, _ => rfl
    | 5, _ => rfl
    | 6, _ => rfl
  refine (join_any (pick7 a b c d e f g) w.heap.size 0 7 cap _ hc (by simp) (by omega) (by rw [tot7]; omega)).mono ?_
  rintro e' w' ⟨rfl, hbl⟩
  exact ⟨by rw [cat7], Below.on (bel_alloc _ _) hbl⟩
end Go.Proofs.YtlngfaplimpilaaDoor
