/- Layer 3: what the digest is, as a function of bytes; no function of the program is named. -/
import Derived.Test.YtjdgccgpkmimkaaDoorDhA
namespace Go.Proofs.YtjdgccgpkmimkaaDoor
open Go.ChangeShapes Go.WideShapes Go.ChangeAt Go.RowKit Go.IntWalk
set_option linter.unusedVariables false

/-- Eight words. -/
structure S8 where
  (a b c d e f g h : Int)
def S8.list (s : S8) : List Int := [s.a, s.b, s.c, s.d, s.e, s.f, s.g, s.h]
def S8.InU (s : S8) : Prop := Go.Proofs.YtjdgccgpkmimkaaDoor.InU s.a ∧ Go.Proofs.YtjdgccgpkmimkaaDoor.InU s.b ∧ Go.Proofs.YtjdgccgpkmimkaaDoor.InU s.c ∧ Go.Proofs.YtjdgccgpkmimkaaDoor.InU s.d ∧ Go.Proofs.YtjdgccgpkmimkaaDoor.InU s.e ∧ Go.Proofs.YtjdgccgpkmimkaaDoor.InU s.f ∧ Go.Proofs.YtjdgccgpkmimkaaDoor.InU s.g ∧ Go.Proofs.YtjdgccgpkmimkaaDoor.InU s.h
def add (x y : Int) : Int := IntKind.u64.wrap (x + y)
theorem inU_add (x y : Int) : Go.Proofs.YtjdgccgpkmimkaaDoor.InU (add x y) := inU_wrap _
def choose (e f g : Int) : Int := bits .xor .u64 (bits .and .u64 e f) (bits .and .u64 (bits .xor .u64 18446744073709551615 e) g)
def most (a b c : Int) : Int := bits .xor .u64 (bits .xor .u64 (bits .and .u64 a b) (bits .and .u64 a c)) (bits .and .u64 b c)
def pOf (k w : Int) (s : S8) : Int := add (add (add (add s.h (three s.e 14 18 41)) (choose s.e s.f s.g)) k) w
def qOf (s : S8) : Int := add (three s.a 28 34 39) (most s.a s.b s.c)
/-- A round. -/
def rnd (k w : Int) (s : S8) : S8 := ⟨add (pOf k w s) (qOf s), s.a, s.b, s.c, add s.d (pOf k w s), s.e, s.f, s.g⟩
theorem rnd_inU (k w : Int) (s : S8) (h : s.InU) : (rnd k w s).InU := ⟨inU_add _ _, h.1, h.2.1, h.2.2.1, inU_add _ _, h.2.2.2.2.1, h.2.2.2.2.2.1, h.2.2.2.2.2.2.1⟩
def rnds (ks ws : List Int) (s : S8) : Nat → S8
  | 0 => s
  | n + 1 => rnd (ks.getD n 0) (ws.getD n 0) (rnds ks ws s n)
theorem rnds_inU (ks ws : List Int) (s : S8) (h : s.InU) : ∀ n, (rnds ks ws s n).InU
  | 0 => h
  | n + 1 => rnd_inU _ _ _ (rnds_inU ks ws s h n)
def sOf (x : Int) : Int := bits .xor .u64 (bits .xor .u64 (rotr x 1) (rotr x 8)) (x / 128)
def tOf (x : Int) : Int := bits .xor .u64 (bits .xor .u64 (rotr x 19) (rotr x 61)) (x / 64)
/-- The highest byte first. -/
def beN (l : List UInt8) : Nat := l.foldl (fun n c => n * 256 + c.toNat) 0
theorem beN_snoc (l : List UInt8) (c : UInt8) : beN (l ++ [c]) = beN l * 256 + c.toNat := by simp [beN]
theorem beN_lt (l : List UInt8) : beN l < 256 ^ l.length := by
  suffices h : ∀ (l : List UInt8) (n m : Nat), n < 256 ^ m → l.foldl (fun n c => n * 256 + c.toNat) n < 256 ^ (m + l.length) by
    have := h l 0 0 (by decide); simpa [beN] using this
  intro l
  induction l with
  | nil => intro n m h; simpa using h
  | cons c l ih =>
    intro n m h
    have := ih (n * 256 + c.toNat) (m + 1) (by have := c.toNat_lt; rw [Nat.pow_succ]; omega)
    simp only [List.foldl_cons, List.length_cons]
    rw [show m + (l.length + 1) = m + 1 + l.length by omega]; exact this
/-- The word j of a block, of which k bytes are there. -/
def seg (bs : List UInt8) (k j : Nat) : List UInt8 := (bs.drop (8 * j)).take (min 8 (k - 8 * j))
def pre (bs : List UInt8) (k : Nat) : List Int := (List.range 80).map fun j => ((beN (seg bs k j) : Nat) : Int)
theorem pre_len (bs : List UInt8) (k : Nat) : (pre bs k).length = 80 := by simp [pre]
theorem pre_at (bs : List UInt8) (k j : Nat) (h : j < 80) : (pre bs k)[j]? = some ((beN (seg bs k j) : Nat) : Int) := by simp [pre, h]
theorem seg_lt (bs : List UInt8) (k j : Nat) (hj : k / 8 = j) : beN (seg bs k j) < 2 ^ 56 := by
  refine Nat.lt_of_lt_of_le (beN_lt _) ?_
  have : (seg bs k j).length ≤ 7 := by
    unfold seg; rw [List.length_take]; omega
  exact Nat.le_trans (Nat.pow_le_pow_right (by decide) this) (by decide)
theorem pre_step (bs : List UInt8) (k : Nat) (c : UInt8) (hk : bs[k]? = some c) : pre bs (k + 1) = (pre bs k).set (k / 8) (((beN (seg bs k (k / 8)) * 256 + c.toNat : Nat)) : Int) := by
  apply List.ext_getElem?
  intro j
  rw [List.getElem?_set]
  by_cases hr : j < 80
  · rw [pre_at _ _ _ hr, pre_at _ _ _ hr, pre_len]
    by_cases hj : k / 8 = j
    · subst hj
      rw [if_pos rfl, if_pos hr, ← beN_snoc]
      congr 3
      unfold seg
      rw [show min 8 (k + 1 - 8 * (k / 8)) = k % 8 + 1 by omega, show min 8 (k - 8 * (k / 8)) = k % 8 by omega, List.take_add_one, List.getElem?_drop, show 8 * (k / 8) + k % 8 = k by omega, hk]
      rfl
    · rw [if_neg hj]
      unfold seg
      rw [show min 8 (k + 1 - 8 * j) = min 8 (k - 8 * j) by omega]
  · rw [List.getElem?_eq_none (by rw [pre_len]; omega), List.getElem?_eq_none (by rw [pre_len]; omega), pre_len]
    split
    · rw [if_neg (by omega)]
    · rfl
/-- A block's words. -/
def w16 (bs : List UInt8) : List Int := (List.range 16).map fun j => ((beN ((bs.drop (8 * j)).take 8) : Nat) : Int)
theorem w16_len (bs : List UInt8) : (w16 bs).length = 16 := by simp [w16]
theorem pre_zero (bs : List UInt8) : pre bs 0 = List.replicate 80 0 := by
  unfold pre seg
  simp only [Nat.zero_sub, Nat.min_zero, List.take_zero]
  rfl
theorem pre_full (bs : List UInt8) (h : bs.length = 128) : pre bs 128 = w16 bs ++ List.replicate 64 0 := by
  apply List.ext_getElem?
  intro j
  by_cases hr : j < 80
  · rw [pre_at _ _ _ hr]
    by_cases hj : j < 16
    · rw [List.getElem?_append_left (by rw [w16_len]; exact hj)]
      unfold w16 seg
      rw [show min 8 (128 - 8 * j) = 8 by omega]
      simp [hj]
    · rw [List.getElem?_append_right (by rw [w16_len]; omega), w16_len, List.getElem?_replicate, if_pos (by omega)]
      unfold seg
      rw [List.drop_of_length_le (by omega), List.take_nil]; rfl
  · rw [List.getElem?_eq_none (by rw [pre_len]; omega), List.getElem?_eq_none (by simp [w16_len]; omega)]
def wnext (ws : List Int) : Int := add (add (add (ws.getD (ws.length - 16) 0) (sOf (ws.getD (ws.length - 15) 0))) (ws.getD (ws.length - 7) 0)) (tOf (ws.getD (ws.length - 2) 0))
def wN (bs : List UInt8) : Nat → List Int
  | 0 => w16 bs
  | n + 1 => wN bs n ++ [wnext (wN bs n)]
theorem wN_len (bs : List UInt8) : ∀ n, (wN bs n).length = 16 + n
  | 0 => w16_len bs
  | n + 1 => by simp [wN, wN_len bs n]; omega
theorem wN_inU (bs : List UInt8) : ∀ n, ∀ x ∈ wN bs n, InU x
  | 0 => by
    intro x hx
    simp only [wN, w16, List.mem_map] at hx
    obtain ⟨j, _, rfl⟩ := hx
    have h1 := beN_lt ((bs.drop (8 * j)).take 8)
    have h2 : ((bs.drop (8 * j)).take 8).length ≤ 8 := by rw [List.length_take]; omega
    have h3 : 256 ^ ((bs.drop (8 * j)).take 8).length ≤ 256 ^ 8 := Nat.pow_le_pow_right (by decide) h2
    have h4 : (256 : Nat) ^ 8 = 18446744073709551616 := by decide
    unfold InU; omega
  | n + 1 => by
    intro x hx
    simp only [wN, List.mem_append, List.mem_singleton] at hx
    rcases hx with hx | rfl
    · exact wN_inU bs n x hx
    · exact inU_add _ _
/-- As an array holds them. -/
def arrW (bs : List UInt8) (n : Nat) : List Int := wN bs n ++ List.replicate (64 - n) 0
theorem arrW_len (bs : List UInt8) (n : Nat) (h : n ≤ 64) : (arrW bs n).length = 80 := by simp [arrW, wN_len]; omega
theorem arrW_at (bs : List UInt8) (n j : Nat) (h : j < 16 + n) : (arrW bs n)[j]? = some ((wN bs n).getD j 0) := by
  unfold arrW
  rw [List.getElem?_append_left (by rw [wN_len]; exact h), List.getD_eq_getElem?_getD, List.getElem?_eq_getElem (by rw [wN_len]; exact h)]; rfl
theorem arrW_step (bs : List UInt8) (n : Nat) (h : n < 64) : (arrW bs n).set (16 + n) (wnext (wN bs n)) = arrW bs (n + 1) := by
  unfold arrW
  rw [List.set_append, wN_len, if_neg (by omega), show 16 + n - (16 + n) = 0 by omega, show 64 - n = (64 - (n + 1)) + 1 by omega, List.replicate_succ]
  simp [wN]
theorem wN_getD_inU (bs : List UInt8) (n j : Nat) : InU ((wN bs n).getD j 0) := by
  rw [List.getD_eq_getElem?_getD]
  by_cases h : j < (wN bs n).length
  · rw [List.getElem?_eq_getElem h]; exact wN_inU bs n _ (List.getElem_mem h)
  · rw [List.getElem?_eq_none (by omega)]; exact ⟨by decide, by decide⟩
def KS : List Int := [4794697086780616226, 8158064640168781261, 13096744586834688815, 16840607885511220156, 4131703408338449720, 6480981068601479193, 10538285296894168987, 12329834152419229976, 15566598209576043074, 1334009975649890238, 2608012711638119052, 6128411473006802146, 8268148722764581231, 9286055187155687089, 11230858885718282805, 13951009754708518548, 16472876342353939154, 17275323862435702243, 1135362057144423861, 2597628984639134821, 3308224258029322869, 5365058923640841347, 6679025012923562964, 8573033837759648693, 10970295158949994411, 12119686244451234320, 12683024718118986047, 13788192230050041572, 14330467153632333762, 15395433587784984357, 489312712824947311, 1452737877330783856, 2861767655752347644, 3322285676063803686, 5560940570517711597, 5996557281743188959, 7280758554555802590, 8532644243296465576, 9350256976987008742, 10552545826968843579, 11727347734174303076, 12113106623233404929, 14000437183269869457, 14369950271660146224, 15101387698204529176, 15463397548674623760, 17586052441742319658, 1182934255886127544, 1847814050463011016, 2177327727835720531, 2830643537854262169, 3796741975233480872, 4115178125766777443, 5681478168544905931, 6601373596472566643, 7507060721942968483, 8399075790359081724, 8693463985226723168, 9568029438360202098, 10144078919501101548, 10430055236837252648, 11840083180663258601, 13761210420658862357, 14299343276471374635, 14566680578165727644, 15097957966210449927, 16922976911328602910, 17689382322260857208, 500013540394364858, 748580250866718886, 1242879168328830382, 1977374033974150939, 2944078676154940804, 3659926193048069267, 4368137639120453308, 4836135668995329356, 5532061633213252278, 6448918945643986474, 6902733635092675308, 7801388544844847127]
def S8.plus (s t : S8) : S8 := ⟨add s.a t.a, add s.b t.b, add s.c t.c, add s.d t.d, add s.e t.e, add s.f t.f, add s.g t.g, add s.h t.h⟩
theorem S8.plus_inU (s t : S8) : (s.plus t).InU := ⟨inU_add _ _, inU_add _ _, inU_add _ _, inU_add _ _, inU_add _ _, inU_add _ _, inU_add _ _, inU_add _ _⟩
/-- The state behind a block. -/
def comp (s : S8) (bs : List UInt8) : S8 := s.plus (rnds KS (wN bs 64) s 80)
def initS : S8 := ⟨7640891576956012808, 13503953896175478587, 4354685564936845355, 11912009170470909681, 5840696475078001361, 11170449401992604703, 2270897969802886507, 6620516959819538809⟩
theorem initS_inU : initS.InU := by unfold S8.InU InU initS; decide
/-- Behind k blocks. -/
def stN (bs : List UInt8) : Nat → S8
  | 0 => initS
  | k + 1 => comp (stN bs k) ((bs.drop (128 * k)).take 128)
theorem stN_inU (bs : List UInt8) : ∀ k, (stN bs k).InU
  | 0 => initS_inU
  | _ + 1 => S8.plus_inU _ _
theorem stN_app (bs cs : List UInt8) : ∀ k, 128 * k ≤ bs.length → stN (bs ++ cs) k = stN bs k
  | 0, _ => rfl
  | k + 1, h => by
    simp only [stN]
    rw [stN_app bs cs k (by omega), List.drop_append_of_le_length (by omega), List.take_append_of_le_length (by rw [List.length_drop]; omega)]
def bytesW (x : Int) : List UInt8 := (List.range 8).map fun j => UInt8.ofNat ((x / 2 ^ (56 - 8 * j)).toNat % 256)
/-- How many bits so many bytes have, the highest byte first. -/
def tailF (n : Nat) : List UInt8 := (List.range 16).map fun j => UInt8.ofNat (8 * n / 256 ^ (15 - j) % 256)
theorem tailF_len (n : Nat) : (tailF n).length = 16 := by simp [tailF]
/-- How many bytes stand between. -/
def gap (n : Nat) : Nat := 128 - (n + 16) % 128
def padded (bs : List UInt8) : List UInt8 := bs ++ (128 :: List.replicate (gap bs.length - 1) 0) ++ tailF bs.length
theorem padded_len (bs : List UInt8) : (padded bs).length % 128 = 0 := by
  simp [padded, tailF_len, gap]; omega
def digest (bs : List UInt8) : List UInt8 := (stN (padded bs) ((padded bs).length / 128)).list.flatMap bytesW
theorem digest_len (bs : List UInt8) : (digest bs).length = 64 := by simp [digest, S8.list, bytesW]
end Go.Proofs.YtjdgccgpkmimkaaDoor
